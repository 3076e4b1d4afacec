/- Texts in a row: Kl Kn Ko. -/
import Derived.Test.YtncebhddcokkoaaDoorZU22
import Derived.BigQuiet
/- A walk over a store's types, whole. -/
namespace Go.Proofs.YtncebhddcokkoaaDoor
open Go.RowKit
set_option linter.unusedSimpArgs false
set_option linter.unusedVariables false
theorem WI.pass {c : Cfg} {A : Abs} {base bi a b m : Nat} {lv : Int} {w0 wr w1 : World} {t t' v : Value} {L L' : List Nd} {rk : Nat → Nat} {T I : List Nat} {o : Option Nat} {x : Nat} (h : WI c A base bi a lv b w0 t wr m v L rk (T ++ [x]) I o) (hB : c.B < base) (hbw : base ≤ w0.heap.size)
    (hS : StL c v L' w1) (hR : Rep rk L' A) (hs : SameBe L L') (hk : Kp c wr w1) (hz : Pln L' (A.r x) ∨ Vis c.wks L' (A.r x)) (ht : IRow w0.heap.size wr t' T) (hne : t'.ownBlock = t.ownBlock) : WI c A base bi a lv b w0 t' w1 (m - 1) v L' rk T I o := by
  have f2 := h.f2
  have f3 := h.f3
  rw [List.length_append] at f2 f3
  have f4 : [x].length = 1 := rfl
  refine ⟨hS, hR, fun i y hy hp => ?_, fun y hy => ?_, fun y hy => ?_, irow_keep ht hk (by omega), fun g hg => h.ne g (by rw [← hne]; exact hg), h.io, inbox_keep h.ib hk hB, ?_, fun z hz2 => h.asd z ((vis_same hs z).2 hz2), h.ii, h.kq.trans (Kq.of_kp hk), by rw [pot_same hs]; exact h.f1, by rw [pot_same hs]; omega, by rw [pot_same hs]; omega⟩
  · obtain ⟨y', b', hy', rfl⟩ := hs.back hy
    exact h.pl i y' hy' hp
  · obtain ⟨i, hi⟩ := List.getElem?_of_mem hy
    obtain ⟨y', b', hy', rfl⟩ := hs.back hi
    exact h.wk y' (List.mem_of_getElem? hy')
  · obtain ⟨i, hi⟩ := List.getElem?_of_mem hy
    obtain ⟨y', b', hy', rfl⟩ := hs.back hi
    exact h.k0 y' (List.mem_of_getElem? hy')
  · exact (h.df.congr (vis_same hs) (pln_same hs)).pass hz
theorem WI.below {c : Cfg} {A : Abs} {base bi a b m : Nat} {lv : Int} {w0 wr w1 : World} {t v : Value} {L : List Nd} {rk : Nat → Nat} {T I : List Nat} {o : Option Nat} (h : WI c A base bi a lv b w0 t wr m v L rk T I o) (hB : c.B < base) (hbw : base ≤ w0.heap.size) (hb : Below wr.heap.size wr w1) : WI c A base bi a lv b w0 t w1 m v L rk T I o := by
  have hk : Kp c wr w1 := Kp.of_below (Nat.le_trans h.st.hb (Nat.le_of_lt h.st.lt)) hb
  exact ⟨h.st.below hb, h.rep, h.pl, h.wk, h.k0, irow_keep h.tr hk (by omega), h.ne, h.io, inbox_keep h.ib hk hB, h.df, h.asd, h.ii, h.kq.trans (Kq.of_kp hk), h.f1, h.f2, h.f3⟩
theorem mem_le_sum {a : Nat} : ∀ {l : List Nat}, a ∈ l → a ≤ l.sum
  | b :: l, h => by
    rw [List.sum_cons]
    rcases List.mem_cons.1 h with rfl | h
    · omega
    · have := mem_le_sum h
      omega
/-- What a walk leaves. -/
def WalkQ (c : Cfg) (A : Abs) (base bi a : Nat) (lv : Int) (b : Nat) (w : World) (e : Ending) (w' : World) : Prop :=
  ∃ r, e = .returned (.bool r) ∧ St { c with wks := c.wks + 1 } A w' ∧ Kq c bi w w' ∧
    (r = true → ∃ I o, InBox w' base bi I o ∧ (∀ g, o = some g → w.heap.size ≤ g) ∧ I.length ≤ 100000 ∧ (∀ z, A.Reach b z → A.kd z = 1 → z ≠ a ∧ z ∈ I) ∧ (∀ z, A.Reach b z → A.kd z = 5 → A.lv z ≤ lv) ∧ ∀ z ∈ I, A.Reach b z ∧ A.kd z = 1) ∧
    (r = false → (A.Reach b a ∧ A.kd a = 1) ∨ ∃ z, A.Reach b z ∧ A.kd z = 5 ∧ lv < A.lv z)
set_option maxRecDepth 100000 in
set_option maxHeartbeats 4000000 in
theorem walk_any (c : Cfg) (A : Abs) (w : World) (base bs bi ba bl a : Nat) (lv : Int) (b : Nat) (hA : A.Ok) (hF : A.Fin) (hL : A.Like) (h : St c A w) (hbl : b < A.l.length) (hw0 : 0 ≤ c.wks) (hw1 : c.wks < 4611686018427387904) (hB : c.B < base) (hbw : base ≤ w.heap.size) (htot : (A.l.map fun x => x.kids.length + 1).sum ≤ 100000)
    (hs : w.heap[bs]? = some (.cells #[.pointer (some ⟨c.B, 0, none⟩)] 51 (0, 0))) (ha : w.heap[ba]? = some (.cells #[intV a] 3 (0, 0))) (hl : w.heap[bl]? = some (.cells #[.int .i64 lv] 3 (0, 0))) (hbs : base ≤ bs) (hba : base ≤ ba) (hbll : base ≤ bl) (hI : w.heap[bi]? = some (.cells #[.slice none 0 0] 88 (0, 0))) (hbi : base ≤ bi) :
    Calls Tryd.prog 76 #[.pointer (some ⟨c.B, 0, none⟩), intV b, .func (.func 77) #[] #[.pointer (some ⟨bs, 0, none⟩), .pointer (some ⟨bi, 0, none⟩), .pointer (some ⟨ba, 0, none⟩), .pointer (some ⟨bl, 0, none⟩)]] w (WalkQ c A base bi a lv b w) := by
  obtain ⟨v, L, rk, h1, h2, h3⟩ := h
  obtain ⟨s0, s1, s2, s3, s4, _, hfz⟩ := h1.own5
  have hfz4 := hfz 4
  have hwr : IntKind.i64.wrap (c.wks + 1) = c.wks + 1 := IntWalk.i64_in _ (by omega)
  have HC := h1.setWks (c.wks + 1)
  have HC2 := Lib.hid HC
  have H1 := Lib.hid h1
  have H2 := Lib.hid h2
  have H3 := Lib.hid h3
  clear h1 h2 h3 HC s0 s1 s2 s3 hfz
  go_enter Tryd.func76, Tryd.ntmps76
  go_wp2
  obtain ⟨hS1, hK1⟩ := HC2.out
  have hbbb : c.b0 ≤ w.heap.size := by have := hS1.hb; have : c.b0 ≤ c.B := this; omega
  have hb2 := below_alloc (w.setCell ⟨c.B, 4, none⟩ (.int .i64 (c.wks + 1))) (.cells #[intV b] 3)
  have hz1 : (w.setCell ⟨c.B, 4, none⟩ (.int .i64 (c.wks + 1))).heap.size = w.heap.size := by simp [World.setCell]
  have hnew := hb_new (w.setCell ⟨c.B, 4, none⟩ (.int .i64 (c.wks + 1))) (.cells #[intV b] 3)
  rw [hz1] at hnew
  have hS2 := hS1.below hb2
  have hK2 : Kp { c with wks := c.wks + 1 } w ((w.setCell ⟨c.B, 4, none⟩ (.int .i64 (c.wks + 1))).alloc (.cells #[intV b] 3)) := by
    have k1 : Kp c w ((w.setCell ⟨c.B, 4, none⟩ (.int .i64 (c.wks + 1))).alloc (.cells #[intV b] 3)) := hK1.trans (Kp.of_below (by rw [hz1]; omega) hb2)
    exact ⟨k1.below, k1.size, k1.block⟩
  have hsz2 : ((w.setCell ⟨c.B, 4, none⟩ (.int .i64 (c.wks + 1))).alloc (.cells #[intV b] 3)).heap.size = w.heap.size + 1 := by rw [World.size_alloc, hz1]
  have HI0 : InBox ((w.setCell ⟨c.B, 4, none⟩ (.int .i64 (c.wks + 1))).alloc (.cells #[intV b] 3)) base bi [] none := ⟨.slice none 0 0, hK2.block bi _ hI (by show bi ≠ c.B; omega) (fun cs fr e => by injection e with _ e2 _; exact absurd e2 (by decide)), World.ownsRow_nil _ _ _ _, rfl, hbi⟩
  generalize (w.setCell ⟨c.B, 4, none⟩ (.int .i64 (c.wks + 1))).alloc (.cells #[intV b] 3) = W1 at *
  have hT0 : IRow w.heap.size W1 (.slice (some ⟨w.heap.size, 0, none⟩) 1 1) [b] := ⟨rfl, .inr ⟨w.heap.size, 1, #[intV b], rfl, Nat.le_refl _, hnew, Nat.le_refl _, by decide, rfl, rfl⟩⟩
  have hpl : pot (c.wks + 1) L ≤ 99999 + 1 := by
    have h5 := pot_le (c.wks + 1) L
    have e : (A.l.map fun x => x.kids.length + 1) = (L.map fun x => x.i.kids.length + 1) := by rw [H2.out.l, List.map_map]; rfl
    rw [e] at htot
    omega
  have hstart : ∃ m v L rk T I o, WI { c with wks := c.wks + 1 } A base bi a lv b w (.slice (some ⟨w.heap.size, 0, none⟩) 1 1) W1 m v L rk T I o := by
    refine ⟨1 + pot (c.wks + 1) L, v, L, rk, [b], [], none, hS2, H2.out, H3.out.pl, fun x hx => ?_, H1.out.kid, hT0, fun g _ e => (by cases e), fun g e => (by cases e), HI0, Dfs.start hbl ?_, ?_, fun z hz => (by cases hz), Kq.of_kp hK2, ?_, ?_, Nat.le_refl _⟩
    · have := H3.out.wk x hx
      show x.wk ≤ c.wks + 1
      omega
    · rintro i ⟨x, hx, e⟩
      have := H3.out.wk x (List.mem_of_getElem? hx)
      have e : x.wk = c.wks + 1 := e
      omega
    · rintro z ⟨x, hx, e⟩
      have := H3.out.wk x (List.mem_of_getElem? hx)
      have e : x.wk = c.wks + 1 := e
      omega
    · show 0 + pot (c.wks + 1) L ≤ 100000
      omega
    · show 1 + pot (c.wks + 1) L ≤ 200000
      omega
  have HST := Lib.hid hstart
  have hHs := Lib.hid hs
  have hHa := Lib.hid ha
  have hHl := Lib.hid hl
  have hHi := Lib.hid hI
  clear hstart hpl hT0 HI0 hK2 hS2 hS1 hK1 hb2 hz1 hnew HC2 H1 H2 H3 hs ha hl hI s4 hfz4 hwr hsz2
  have hwr : IntKind.i64.wrap (c.wks + 1) = c.wks + 1 := IntWalk.i64_in _ (by omega)
  clear hw0 hw1 hwr
  generalize hc' : ({ c with wks := c.wks + 1 } : Cfg) = c' at *
  have hcB : c'.B = c.B := by rw [← hc']
  rw [← hcB]
  rw [← hcB] at hB
  have hHs2 : RowKit.Hid (w.heap[bs]? = some (.cells #[.pointer (some ⟨c'.B, 0, none⟩)] 51 (0, 0))) := Lib.hid (by rw [hcB]; exact hHs.out)
  have HCC := Lib.hid hc'
  clear hc' hcB
  go_loopw [7] (fun t wr => ∃ m v L rk T I o, WI c' A base bi a lv b w t wr m v L rk T I o) (fun t wr => least fun m => ∃ v L rk T I o, WI c' A base bi a lv b w t wr m v L rk T I o)
  case atStart => exact HST.out
  case round =>
    have hle := least_spec (P := fun m => ∃ v L rk T I o, WI c' A base bi a lv b w u7 wr m v L rk T I o) hrel
    have hless : ∀ t' wr' m', m' < (least fun m => ∃ v L rk T I o, WI c' A base bi a lv b w u7 wr m v L rk T I o) → (∃ v L rk T I o, WI c' A base bi a lv b w t' wr' m' v L rk T I o) → (∃ m v L rk T I o, WI c' A base bi a lv b w t' wr' m v L rk T I o) ∧ (least fun m => ∃ v L rk T I o, WI c' A base bi a lv b w t' wr' m v L rk T I o) < (least fun m => ∃ v L rk T I o, WI c' A base bi a lv b w u7 wr m v L rk T I o) := fun t' wr' m' h1 h2 => ⟨⟨m', h2⟩, Nat.lt_of_le_of_lt (least_le h2) h1⟩
    obtain ⟨m0, hm0⟩ : ∃ m0, m0 = least fun m => ∃ v L rk T I o, WI c' A base bi a lv b w u7 wr m v L rk T I o := ⟨_, rfl⟩
    rw [← hm0] at hle
    have HM := Lib.hid hm0
    clear hm0
    have HLE := Lib.hid hless
    clear hless hrel
    obtain ⟨v, L, rk, T, I, o, hW⟩ := hle
    have HW := Lib.hid hW
    rcases List.eq_nil_or_concat T with rfl | ⟨T', x, rfl⟩
    · obtain ⟨q, cap, rfl, _, _⟩ := hW.tr.shape
      have HDF := Lib.hid hW.df
      clear hW
      go_wp2
      go_ret
      have hW := HW.out
      refine ⟨true, rfl, ?_, ?_, fun _ => ⟨I, o, hW.ib, hW.io, by have := hW.f1; omega, fun z hz hk => ?_, fun z hz hk => ?_, hW.ii⟩, fun h => by cases h⟩
      · rw [HCC.out]
        exact ⟨v, L, rk, hW.st, hW.rep, ⟨hW.pl, hW.wk⟩⟩
      · have h := hW.kq
        rw [← HCC.out] at h
        exact ⟨h.below, h.size, h.block⟩
      · exact (hW.asd z (HDF.out.all hA hF hL hbl (fun i hp => by obtain ⟨y, hy, hpl⟩ := hp; exact ⟨by rw [hW.rep.len]; exact (List.getElem?_eq_some_iff.1 hy).1, hW.pl i y hy hpl⟩) hz (.inl hk))).1 hk
      · exact (hW.asd z (HDF.out.all hA hF hL hbl (fun i hp => by obtain ⟨y, hy, hpl⟩ := hp; exact ⟨by rw [hW.rep.len]; exact (List.getElem?_eq_some_iff.1 hy).1, hW.pl i y hy hpl⟩) hz (.inr hk))).2 hk
    · rw [List.concat_eq_append] at HW hW
      obtain ⟨gt, capt, rfl, hct1, hct2, hgt, t0, ⟨cst, hgtb⟩, hpop⟩ := hW.tr.pop
      have hxl : x < L.length := by rw [← hW.rep.len]; exact hW.df.lt x (by simp)
      have HFD := Lib.hid (find_any c' rk v L A wr x hW.st hW.rep hxl)
      have HPOP := Lib.hid hpop
      clear hW hpop hgtb
      have hct3 : capt ≤ 9223372036854775807 := by unfold maxLen at hct2; omega
      go_wp2_with (go_at_call 55; (with_reducible refine HFD.out.mono ?_); rintro e w1 ⟨rfl, L', k1, k2, k3, k4, _⟩; (have hzl : A.r x < L'.length := (by rw [← k2.len]; exact hA.lt x (by rw [k2.len, k3.1]; exact hxl))); (have hy : L'[A.r x]? = some (L'[A.r x]'hzl) := List.getElem?_eq_getElem _); (generalize L'[A.r x]'hzl = y at hy); (obtain ⟨g, cap, rfl, hgB, hg0, hc1, hc2, s0, s1, s2, s3, s4, y0, y1, y2, y3, y4, y5, y6, y7, y8, hfz⟩ := k1.at hy); have hlt1 : ((A.r x : Nat) : Int) < (L'.length : Int) := (by omega); have K1 := Lib.hid k1; have K2 := Lib.hid k2; have K3 := Lib.hid k3; have K4 := Lib.hid k4; have HY := Lib.hid hy; clear k1 k2 k3 k4 hy s1 s2 s3 y0 y1 y2 y4 y5 y6)
      have hm1 : m0 - 1 < m0 := by have := HW.out.f3; rw [List.length_append] at this; have : [x].length = 1 := rfl; omega
      by_cases hpl : y.pl = true
      · rw [hpl] at y7
        have HN := Lib.hid (HW.out.pass hB hbw K1.out K2.out K3.out K4.out (.inl ⟨y, HY.out, hpl⟩) HPOP.out rfl)
        go_quiet (fail)
        all_goals go_wp2
        all_goals exact HLE.out _ _ (m0 - 1) (by rw [← HM.out]; exact hm1) ⟨_, L', rk, T', I, o, HN.out.below hB hbw (below_drewN (Below.refl _ _) _)⟩
      · have hpf : y.pl = false := by simpa using hpl
        rw [hpf] at y7
        by_cases hwk : y.wk = c'.wks
        · rw [hwk] at y8
          have HN := Lib.hid (HW.out.pass hB hbw K1.out K2.out K3.out K4.out (.inr ⟨y, HY.out, hwk⟩) HPOP.out rfl)
          go_quiet (fail)
          all_goals go_wp2
          all_goals exact HLE.out _ _ (m0 - 1) (by rw [← HM.out]; exact hm1) ⟨_, L', rk, T', I, o, HN.out.below hB hbw (below_drewN (Below.refl _ _) _)⟩
        · have e0 : (y.wk == c'.wks) = false := by simpa using hwk
          have hfz8 := hfz (A.r x * 9 + 8)
          have HE0 := Lib.hid hpf
          have HE1 := Lib.hid hwk
          go_quiet (fail)
          all_goals
            have k1 := K1.out.below (below_drewN (Below.refl w1.heap.size w1) nq)
            have k4 : Kp c' wr (w1.drewN nq) := K4.out.trans (Kp.of_below (Nat.le_trans K1.out.hb (Nat.le_of_lt K1.out.lt)) (below_drewN (Below.refl w1.heap.size w1) nq))
            have u0 : (w1.drewN nq).cell? ⟨c'.B, 0, none⟩ = some (.slice (some ⟨g, 0, none⟩) L'.length cap) := s0
            have u4 : (w1.drewN nq).cell? ⟨c'.B, 4, none⟩ = some (.int .i64 c'.wks) := s4
            have u8' : (w1.drewN nq).cell? ⟨g, A.r x * 9 + 8, none⟩ = some (.int .i64 y.wk) := y8
            have uf : (w1.drewN nq).frozen? ⟨g, A.r x * 9 + 8, none⟩ = false := hfz8
            generalize w1.drewN nq = w2 at *
            obtain ⟨q1, q2⟩ := StL.put (y := { y with wk := c'.wks }) k1 HY.out (f := 8) (u := .int .i64 c'.wks) (by omega) (fun q => by
              match q with
              | 0 => rfl
              | 1 => rfl
              | 2 => rfl
              | 3 => rfl
              | 4 => rfl
              | 5 => rfl
              | 6 => rfl
              | 7 => rfl
              | 8 => rfl
              | q + 9 => rfl) rfl rfl
            have k5 := k4.trans q2
            have Q1 := Lib.hid q1
            have K5 := Lib.hid k5
            have hW := HW.out
            have hqq := hW.kq.trans (Kq.of_kp k5)
            have hbs2 : bs ≠ bi := type_ne hHs.out hHi.out (by decide)
            have hba2 : ba ≠ bi := type_ne hHa.out hHi.out (by decide)
            have hbl2 : bl ≠ bi := type_ne hHl.out hHi.out (by decide)
            have n90 : ∀ (cs : Array Value) (T : TypeId), T ≠ 90 → ∀ cs' fr', Obj.cells cs T (0, 0) ≠ .cells cs' 90 fr' := fun cs T hT cs' fr' e => by injection e with _ e2 _; exact hT e2
            have hask := (ask_any c' _ _ _ base bs bi ba bl I o a lv (A.r x) ⟨y.i, y.ks, y.lv, y.cl, y.be, y.pl, c'.wks⟩ q1 (by rw [List.getElem?_set, if_pos rfl, if_pos hzl]) (inbox_keep hW.ib k5 hB) (Nat.le_trans hbw (Nat.le_trans hqq.size (Nat.le_refl _)))
              (hqq.block bs _ hHs2.out (by omega) hbs2 (n90 _ _ (by decide))) (hqq.block ba _ hHa.out (by omega) hba2 (n90 _ _ (by decide))) (hqq.block bl _ hHl.out (by omega) hbl2 (n90 _ _ (by decide))) (fun e => by have h1 := hW.io ba e.symm; have h2 := hb_lt hHa.out; omega) (by have := hW.f1; omega))
            dsimp only at hask
            obtain ⟨r, hr⟩ : ∃ r, r = (if y.i.k = 1 then decide (A.r x ≠ a) else if y.i.k = 5 then decide (y.lv ≤ lv) else true) := ⟨_, rfl⟩
            rw [← hr] at hask
            have HASK := Lib.hid hask
            have HRR := Lib.hid hr
            have hB2 : Kq c bi w (w2.setCell ⟨g, A.r x * 9 + 8, none⟩ (.int .i64 c'.wks)) → True := fun _ => trivial
            clear hask hr q1 q2 k1 k4 k5 hqq hW n90 hB2 s0 s4 y7 y8 y3 hfz hfz8
            cases r with
            | false =>
              go_wp2_with (go_at_call 77; (with_reducible refine HASK.out.mono ?_); rintro e w3 ⟨rfl, hb3, o', ib3, ho3, hfr⟩)
              go_ret
              obtain ⟨hkq, hS3, hkM, hrow⟩ := HW.out.met (w2 := w2) (o' := o') hB hbw K3.out K5.out HY.out Q1.out hb3 hfr ⟨_, _, hHi.out⟩
              have hkd : A.kd (A.r x) = y.i.k := Abs.kd_some (by rw [hA.idem]; exact K2.out.at HY.out)
              have hxI := HW.out.df.tc x (by simp) _ (.here x)
              refine ⟨false, rfl, ?_, ?_, (fun h => by cases h), fun _ => ?_⟩
              · rw [HCC.out]
                exact ⟨_, _, rk, hS3, K2.out.mark HY.out _, HW.out.ex K3.out HY.out HE0.out⟩
              · rw [← HCC.out] at hkq
                exact ⟨hkq.below, hkq.size, hkq.block⟩
              · have hr := HRR.out
                by_cases h1 : y.i.k = 1
                · rw [if_pos h1] at hr
                  have h2 : A.r x = a := by simpa using hr
                  left
                  rw [← h2]
                  exact ⟨hxI, hkd.trans h1⟩
                · rw [if_neg h1] at hr
                  by_cases h5 : y.i.k = 5
                  · rw [if_pos h5] at hr
                    have h2 : ¬ y.lv ≤ lv := by simpa using hr
                    right
                    refine ⟨A.r x, hxI, hkd.trans h5, ?_⟩
                    rw [K2.out.lv _ _ HY.out]
                    omega
                  · rw [if_neg h5] at hr
                    cases hr
            | true =>
              have hMz : (L'.set (A.r x) { y with wk := c'.wks })[A.r x]? = some { y with wk := c'.wks } := by rw [List.getElem?_set, if_pos rfl, if_pos hzl]
              have HMZ := Lib.hid hMz
              clear hMz
              go_wp2_with (first
                | (go_at_call 77; (with_reducible refine HASK.out.mono ?_); rintro e w3 ⟨rfl, hb3, o', ib3, ho3, hfr⟩; (obtain ⟨hkq, hS3, hkM, hrow⟩ := HW.out.met (w2 := w2) (o' := o') hB hbw K3.out K5.out HY.out Q1.out hb3 hfr ⟨_, _, hHi.out⟩); (obtain ⟨g', cap', eg, _, _, _, _, _, _, _, _, _, _, _, _, z3, _⟩ := hS3.at HMZ.out); (obtain ⟨kq, kc, hks, hkk⟩ := hS3.kid _ (List.mem_of_getElem? HMZ.out)); (injection eg with eg1 eg2 eg3); (injection eg1 with eg1); (injection eg1 with eg1); subst eg1; (have hks : y.ks = .slice kq y.i.kids.length kc := hks); (have z3 : w3.cell? ⟨g, A.r x * 9 + 3, none⟩ = some (.slice kq y.i.kids.length kc) := (by rw [← hks]; exact z3)); have HKQ := Lib.hid hkq; have HS3 := Lib.hid hS3; have HKM := Lib.hid hkM; have HT3 := Lib.hid (hrow _ HPOP.out rfl); have HIB := Lib.hid ib3; have HO3 := Lib.hid ho3; have HKK := Lib.hid hkk; clear hkq hS3 hkM hrow ib3 ho3 hkk hfr hb3 eg2 eg3 hks)
                | (at_builtin; refine (fun h : True → _ => h trivial) ?_))
              intro _
              have hok : y.i.k = 1 → A.r x ≠ a := fun h1 => by
                have hr := HRR.out
                rw [if_pos h1] at hr
                simpa using hr
              have hok5 : y.i.k = 5 → y.lv ≤ lv := fun h5 => by
                have hr := HRR.out
                rw [if_neg (by omega), if_pos h5] at hr
                simpa using hr
              have hcb := HS3.out.lt
              have hc0 := HS3.out.hb
              have FIN : RowKit.Hid (∀ v4 w4, IRow w.heap.size w4 v4 (T' ++ y.i.kids) → w3.grownBy w4 (some gt) → (v4.ownBlock = some gt ∨ v4.ownBlock = some w3.heap.size) → ∃ v L rk T I o, WI c' A base bi a lv b w v4 w4 (m0 - 1) v L rk T I o) := Lib.hid fun v4 w4 h1 h2 h3 => ⟨_, _, rk, _, _, o', HW.out.next (w2 := w2) (w3 := w3) hB hbw hA K3.out K2.out K5.out HY.out HE0.out HE1.out HO3.out HIB.out ⟨_, _, hHi.out⟩ HKQ.out HS3.out HKM.out h1 h2 h3 hok hok5⟩
              have hlast : ∀ v4 w4, (∃ v L rk T I o, WI c' A base bi a lv b w v4 w4 (m0 - 1) v L rk T I o) → _ := fun v4 w4 h => HLE.out v4 w4 (m0 - 1) (by rw [← HM.out]; exact hm1) h
              have HLAST := Lib.hid hlast
              clear hlast
              by_cases hkn : y.i.kids = []
              · have e : y.i.kids.length = 0 := by rw [hkn]; rfl
                have hrun : (Builtin.append_ #[88, 88] 88 #[.slice (some ⟨gt, 0, none⟩) T'.length capt, .slice kq y.i.kids.length kc]).run Tryd.prog w3 = .ok (.slice (some ⟨gt, 0, none⟩) T'.length capt) w3 := by rw [e]; exact run_app_nil w3 _ _ _ (by omega) _ _
                have hT4 : IRow w.heap.size w3 (.slice (some ⟨gt, 0, none⟩) T'.length capt) (T' ++ y.i.kids) := by rw [hkn, List.append_nil]; exact HT3.out
                have hF := FIN.out _ w3 hT4 ⟨rfl, rfl, rfl, Nat.le_refl _, fun _ _ _ => rfl⟩ (.inl rfl)
                have HF := Lib.hid hF
                refine wpList_app rfl _ _ rfl rfl rfl rfl hrun ?_
                clear hrun hT4 hF z3
                go_wp2
                exact HLAST.out _ _ HF.out
              · rcases HKK.out with h0 | ⟨gk, ok, csk, frk, rfl, hgk, _, hck⟩
                · exact absurd h0 hkn
                · have hf2 := HW.out.f2
                  obtain ⟨v4, w4, hrun, hr4, hg4, ho4⟩ := HT3.out.app (m := y.i.kids) (g := gk) (o := ok) (cc := kc) HKQ.out.size (fun _ j u hu => by rw [hb_cell hgk]; exact hck j u hu) (by
                    have h1 := K2.out.at HY.out
                    have h2 : y.i.kids.length + 1 ≤ (A.l.map fun x => x.kids.length + 1).sum := mem_le_sum (List.mem_map.2 ⟨y.i, List.mem_of_getElem? h1, rfl⟩)
                    rw [List.length_append] at hf2
                    omega)
                  obtain ⟨q4, c4, e4, _, _⟩ := hr4.shape
                  subst e4
                  have hF := FIN.out _ w4 hr4 hg4 ho4
                  rw [List.length_append] at hF
                  have HF := Lib.hid hF
                  refine wpList_app rfl _ _ rfl rfl rfl rfl hrun ?_
                  clear hrun hr4 hg4 ho4 hF z3
                  go_wp2
                  exact HLAST.out _ _ HF.out
end Go.Proofs.YtncebhddcokkoaaDoor
/- A variable becomes a type. -/
namespace Go.Proofs.YtncebhddcokkoaaDoor
open Go.RowKit
set_option linter.unusedSimpArgs false
set_option linter.unusedVariables false
/-- A store with other levels. -/
def lvl (A : Abs) (m : Nat → Int) : Abs := ⟨A.l, A.r, m⟩
theorem Rep.lvl {rk : Nat → Nat} {L : List Nd} {A : Abs} (h : Rep rk L A) {i : Nat} {x : Nd} (hx : L[i]? = some x) (n : Int) {m : Nat → Int} (hm : ∀ j, j < L.length → m j = if j = i then n else A.lv j) : Rep rk (L.set i { x with lv := n }) (lvl A m) := by
  have key : ∀ (j : Nat) (z : Nd), (L.set i { x with lv := n })[j]? = some z → ∃ y : Nd, L[j]? = some y ∧ z.i = y.i ∧ z.lv = (if j = i then n else y.lv) ∧ z.be = y.be := by
    intro j z hz
    rw [List.getElem?_set] at hz
    by_cases e : i = j
    · rw [if_pos e] at hz
      subst e
      rw [if_pos (List.getElem?_eq_some_iff.1 hx).1] at hz
      cases hz
      exact ⟨x, hx, rfl, by rw [if_pos rfl], rfl⟩
    · rw [if_neg e] at hz
      exact ⟨z, hz, rfl, by rw [if_neg fun e2 => e e2.symm], rfl⟩
  refine ⟨?_, fun j z hz => ?_, fun j z hz => ?_⟩
  · show A.l = _
    rw [h.l]
    apply List.ext_getElem?
    intro j
    rw [List.getElem?_map, List.getElem?_map, List.getElem?_set]
    by_cases e : i = j
    · rw [if_pos e]
      subst e
      rw [if_pos (List.getElem?_eq_some_iff.1 hx).1, hx]; rfl
    · rw [if_neg e]
  · obtain ⟨y, hy, _, e, _⟩ := key j z hz
    have hj := (List.getElem?_eq_some_iff.1 hy).1
    show m j = z.lv
    rw [e, hm j hj, h.lv j y hy]
  · obtain ⟨y, hy, _, _, e⟩ := key j z hz
    rw [e, List.length_set]; exact h.be j y hy
theorem Ex.lvl {c : Cfg} {L : List Nd} {A : Abs} (h : Ex c L A) {i : Nat} {x : Nd} (hx : L[i]? = some x) (n : Int) (m : Nat → Int) : Ex c (L.set i { x with lv := n }) (lvl A m) := by
  refine ⟨fun j z hz hp => ?_, fun z hz => ?_⟩
  · rw [List.getElem?_set] at hz
    by_cases e : i = j
    · rw [if_pos e] at hz
      subst e
      rw [if_pos (List.getElem?_eq_some_iff.1 hx).1] at hz
      cases hz
      exact h.pl i x hx hp
    · rw [if_neg e] at hz
      exact h.pl j z hz hp
  · rcases List.mem_or_eq_of_mem_set hz with hz | rfl
    · exact h.wk z hz
    · exact h.wk x (List.mem_of_getElem? hx)
theorem kp_of_kq {c : Cfg} {bi : Nat} {w W w' : World} (hb : Below w.heap.size w W) (hb0 : c.b0 ≤ w.heap.size) (h : Kq c bi W w') (hbi : w.heap.size ≤ bi) : Kp c w w' := by
  refine ⟨(hb.mono hb0).trans h.below, Nat.le_trans hb.size h.size, fun k x hx h1 h2 => ?_⟩
  have := hb_lt hx
  exact h.block k x (by rw [hb.block k this]; exact hx) h1 (by omega) h2
/-- What is left where a variable was to become a type. -/
def BindQ (c : Cfg) (A : Abs) (u v : Nat) (w : World) (e : Ending) (w' : World) : Prop :=
  ∃ r, e = .returned (.bool r) ∧ Kp c w w' ∧ (r = true → ¬ A.Bad (A.turn u v).1 (A.turn u v).2 ∧ St { c with wks := c.wks + 1 } (A.bind (A.turn u v).1 (A.turn u v).2 (A.low (A.turn u v).2 (A.lv (A.turn u v).1))) w') ∧
    (r = false → A.Bad (A.turn u v).1 (A.turn u v).2 ∧ St { c with wks := c.wks + 1 } A w')
open Classical in
/-- Levels, once the first k of a walk's list are done. -/
noncomputable def mk (A : Abs) (lv : Int) (I : List Nat) (k : Nat) (j : Nat) : Int := if j ∈ I.take k then min (A.lv j) lv else A.lv j
theorem mk_zero (A : Abs) (lv : Int) (I : List Nat) : mk A lv I 0 = A.lv := by
  funext j
  unfold mk
  simp
theorem mk_next (A : Abs) (lv : Int) (I : List Nat) {k i : Nat} (h : I[k]? = some i) (j : Nat) : mk A lv I (k + 1) j = if j = i then min (mk A lv I k i) lv else mk A lv I k j := by
  have e : I.take (k + 1) = I.take k ++ [i] := by rw [List.take_add_one, h]; rfl
  unfold mk
  rw [e]
  by_cases hj : j = i
  · subst hj
    rw [if_pos rfl, if_pos (by simp)]
    split
    · omega
    · rfl
  · rw [if_neg hj]
    by_cases h2 : j ∈ I.take k
    · rw [if_pos h2, if_pos (by simp [h2])]
    · rw [if_neg h2, if_neg (by simp [h2, hj])]
theorem mk_all (A : Abs) {a b : Nat} {I : List Nat} (h1 : ∀ z, A.Reach b z → A.kd z = 1 → z ∈ I) (h2 : ∀ z ∈ I, A.Reach b z ∧ A.kd z = 1) : mk A (A.lv a) I I.length = A.low b (A.lv a) := by
  funext j
  unfold mk Abs.low
  rw [List.take_length]
  by_cases h : j ∈ I
  · rw [if_pos h, if_pos (h2 j h)]
  · rw [if_neg h, if_neg fun h3 => h (h1 j h3.1 h3.2)]
set_option maxRecDepth 100000 in
set_option maxHeartbeats 4000000 in
theorem bind_any (c : Cfg) (A : Abs) (w : World) (u v : Nat) (hA : A.Ok) (hF : A.Fin) (hL : A.Like) (h : St c A w) (hu : u < A.l.length) (hv : v < A.l.length) (hru : A.r u = u) (hrv : A.r v = v) (huv : u ≠ v) (hk : A.kd u = 1 ∨ A.kd v = 1)
    (hw0 : 0 ≤ c.wks) (hw1 : c.wks < 4611686018427387904) (htot : (A.l.map fun x => x.kids.length + 1).sum ≤ 100000) :
    Calls Tryd.prog 56 #[.pointer (some ⟨c.B, 0, none⟩), intV u, intV v] w (BindQ c A u v w) := by
  have hlt := h.lt
  have hbt := (below_alloc w (.cells #[.pointer (some ⟨c.B, 0, none⟩)] 51)).trans ((below_alloc (w.alloc (.cells #[.pointer (some ⟨c.B, 0, none⟩)] 51)) (.cells #[intV u] 3)).mono (by simp))
  have hS := h.below hbt
  have hb0 := hb_alloc (hb_new w (.cells #[.pointer (some ⟨c.B, 0, none⟩)] 51)) (.cells #[intV u] 3)
  have hb1 := hb_new (w.alloc (.cells #[.pointer (some ⟨c.B, 0, none⟩)] 51)) (.cells #[intV u] 3)
  rw [World.size_alloc] at hb1
  have hsz : ((w.alloc (.cells #[.pointer (some ⟨c.B, 0, none⟩)] 51)).alloc (.cells #[intV u] 3)).heap.size = w.heap.size + 2 := by simp
  have HBT := Lib.hid hbt
  have H0 := Lib.hid h
  clear h hbt
  go_enter Tryd.func56, Tryd.ntmps56
  go_upto_region 1 with (fail)
  generalize (w.alloc (.cells #[.pointer (some ⟨c.B, 0, none⟩)] 51)).alloc (.cells #[intV u] 3) = W1 at *
  go_cut [36] (fun t wx => t = .bool (decide (A.kd u ≠ 1 ∨ (A.kd v = 1 ∧ u < v))) ∧ Below W1.heap.size W1 wx)
  case first =>
    obtain ⟨vv, L, rk, p1, p2, p3⟩ := hS
    obtain ⟨x, hx⟩ := p2.lt hA hu
    obtain ⟨y, hy⟩ := p2.lt hA hv
    rw [hru] at hx
    rw [hrv] at hy
    have hku : A.kd u = x.i.k := Abs.kd_some (by rw [hru]; exact p2.at hx)
    have hkv : A.kd v = y.i.k := Abs.kd_some (by rw [hrv]; exact p2.at hy)
    obtain ⟨g, cap, rfl, hgB, hg0, hc1, hc2, s0, s1, s2, s3, s4, x0, x1, x2, x3, x4, x5, x6, x7, x8, hfz⟩ := p1.at hx
    obtain ⟨g', cap', e, _, _, _, _, _, _, _, _, _, y0, y1, y2, y3, y4, y5, y6, y7, y8, _⟩ := p1.at hy
    injection e with e1 e2 e3
    injection e1 with e1
    injection e1 with e1
    subst e1 e3
    have hlt1 : (u : Int) < (L.length : Int) := by have := (List.getElem?_eq_some_iff.1 hx).1; omega
    have hlt2 : (v : Int) < (L.length : Int) := by have := (List.getElem?_eq_some_iff.1 hy).1; omega
    have z0 := hb_at hb0 0 rfl
    have z1 := hb_at hb1 0 rfl
    have HKU := Lib.hid hku
    have HKV := Lib.hid hkv
    clear p1 p2 p3 hx hy hku hkv s1 s2 s3 s4 x1 x2 x3 x4 x5 x6 x7 x8 y1 y2 y3 y4 y5 y6 y7 y8 hfz hk hF hL hb0 hb1
    by_cases h1 : x.i.k = 1
    · have e0 : (x.i.k != 1) = false := by simpa using h1
      by_cases h2 : y.i.k = 1
      · have e2 : (y.i.k == 1) = true := by simpa using h2
        have HD : ∀ q : Bool, q = decide (u < v) → RowKit.Hid (q = decide (A.kd u ≠ 1 ∨ (A.kd v = 1 ∧ u < v))) := fun q hq => Lib.hid (by rw [hq, HKU.out, HKV.out]; simp [h1, h2])
        by_cases h3 : u < v
        · have e3 : (u : Int) < (v : Int) := by omega
          have HD2 := HD true (by simp [h3])
          clear HD h1 h2
          go_quiet (fail)
          all_goals go_wp2
          all_goals go_meet
          all_goals exact ⟨by rw [← HD2.out], below_drewN (Below.refl _ _) _⟩
        · have e3 : ¬ (u : Int) < (v : Int) := by omega
          have HD2 := HD false (by simp [h3])
          clear HD h1 h2
          go_quiet (fail)
          all_goals go_wp2
          all_goals go_meet
          all_goals exact ⟨by rw [← HD2.out], below_drewN (Below.refl _ _) _⟩
      · have e2 : (y.i.k == 1) = false := by simpa using h2
        have HD2 : RowKit.Hid (false = decide (A.kd u ≠ 1 ∨ (A.kd v = 1 ∧ u < v))) := Lib.hid (by rw [HKU.out, HKV.out]; simp [h1, h2])
        clear h1 h2
        go_quiet (fail)
        all_goals go_wp2
        all_goals go_meet
        all_goals exact ⟨by rw [← HD2.out], below_drewN (Below.refl _ _) _⟩
    · have e0 : (x.i.k != 1) = true := by simpa using h1
      have HD2 : RowKit.Hid (true = decide (A.kd u ≠ 1 ∨ (A.kd v = 1 ∧ u < v))) := Lib.hid (by rw [HKU.out, HKV.out]; simp [h1])
      clear h1
      go_quiet (fail)
      all_goals go_wp2
      all_goals go_meet
      all_goals exact ⟨by rw [← HD2.out], below_drewN (Below.refl _ _) _⟩
  case rest =>
    obtain ⟨rfl, hbc⟩ := hcut
    have hS := hS.below hbc
    have hb0 := hb_below hb0 hbc (hb_lt hb0)
    have hb1 := hb_below hb1 hbc (hb_lt hb1)
    have hbw := HBT.out.trans (hbc.mono (by omega))
    have hsz := hbc.size
    clear HBT
    generalize hT : A.turn u v = p at *
    obtain ⟨a, b⟩ := p
    obtain ⟨hra, hrb, hal, hbl, hab, hka, hwh, hlo⟩ := Abs.turn_spec hA hu hv (by rw [hru, hrv]; exact huv) hk (by rw [hru, hrv, hT])
    have hdir : (decide (A.kd u ≠ 1 ∨ (A.kd v = 1 ∧ u < v)) = true ∧ a = v ∧ b = u) ∨ (decide (A.kd u ≠ 1 ∨ (A.kd v = 1 ∧ u < v)) = false ∧ a = u ∧ b = v) := by
      by_cases hd : A.kd u ≠ 1 ∨ (A.kd v = 1 ∧ u < v)
      · have h2 : A.turn u v = (v, u) := if_pos hd
        rw [hT] at h2
        cases h2
        exact .inl ⟨by simpa using hd, rfl, rfl⟩
      · have h2 : A.turn u v = (u, v) := if_neg hd
        rw [hT] at h2
        cases h2
        exact .inr ⟨by simpa using hd, rfl, rfl⟩
    have HWH := Lib.hid hwh
    have HT := Lib.hid hT
    clear hwh hT
    generalize decide (A.kd u ≠ 1 ∨ (A.kd v = 1 ∧ u < v)) = sw at *
    go_upto_if 36 with (fail)
    go_cut [2] (fun t wx => t = intV b ∧ Below w.heap.size w wx ∧ wx.heap[w.heap.size]? = some (.cells #[.pointer (some ⟨c.B, 0, none⟩)] 51 (0, 0)) ∧ wx.heap[w.heap.size + 1]? = some (.cells #[intV a] 3 (0, 0)))
    case first =>
      have z1 := hb_at hb1 0 rfl
      have zf := hb_free hb1 0
      have HB0 := Lib.hid hb0
      have HB1 := Lib.hid hb1
      have HBW := Lib.hid hbw
      clear hS hb0 hb1 hbw hbc
      rcases hdir with ⟨rfl, rfl, rfl⟩ | ⟨rfl, rfl, rfl⟩
      · go_wp2
        all_goals go_meet
        exact ⟨rfl, HBW.out.setCell (by show w.heap.size ≤ w.heap.size + 1; omega) _, hb_set_other HB0.out _ (by show w.heap.size ≠ w.heap.size + 1; omega), hb_set_same HB1.out 0 _⟩
      · go_wp2
        all_goals go_meet
        exact ⟨rfl, HBW.out, HB0.out, HB1.out⟩
    case rest =>
      clear hdir hS hb0 hb1 hbw hbc hsz
      obtain ⟨rfl, hbw, hb0, hb1⟩ := hcut
      have hS := H0.out.below hbw
      obtain ⟨vv, L, rk, p1, p2, p3⟩ := hS
      obtain ⟨x, hx⟩ := p2.lt hA hal
      rw [hra] at hx
      obtain ⟨g, cap, rfl, hgB, hg0, hc1, hc2, s0, s1, s2, s3, s4, x0, x1, x2, x3, x4, x5, x6, x7, x8, hfz⟩ := p1.at hx
      have hlt1 : (a : Int) < (L.length : Int) := by have := (List.getElem?_eq_some_iff.1 hx).1; omega
      have hlva : A.lv a = x.lv := p2.lv a x hx
      have z0 := hb_at hb0 0 rfl
      have z1 := hb_at hb1 0 rfl
      have hz0 := hb_lt hb0
      have hz1 := hb_lt hb1
      have HB0 := Lib.hid hb0
      have HB1 := Lib.hid hb1
      have HBW := Lib.hid hbw
      have hzB := block_lt_of_cell s0
      have hzg := block_lt_of_cell x4
      clear hb0 hb1 hbw p1 p2 p3 hx s1 s2 s3 s4 x0 x1 x2 x3 x5 x6 x7 x8 hfz
      go_upto_region 3 with (fail)
      go_region
      all_goals
        have HW5 := Lib.hid (((HBW.out.alloc HBW.out.size (.cells #[.int .i64 x.lv] 3)).alloc (by rw [World.size_alloc]; have := HBW.out.size; omega) (.cells #[.slice none 0 0] 88)).drew)
        have w0s : ((wc.alloc (.cells #[.int .i64 x.lv] 3)).alloc (.cells #[.slice none 0 0] 88)).drew.heap[w.heap.size]? = some (.cells #[.pointer (some ⟨c.B, 0, none⟩)] 51 (0, 0)) := hb_alloc (hb_alloc HB0.out _) _
        have w1s : ((wc.alloc (.cells #[.int .i64 x.lv] 3)).alloc (.cells #[.slice none 0 0] 88)).drew.heap[w.heap.size + 1]? = some (.cells #[intV a] 3 (0, 0)) := hb_alloc (hb_alloc HB1.out _) _
        have w2s : ((wc.alloc (.cells #[.int .i64 x.lv] 3)).alloc (.cells #[.slice none 0 0] 88)).drew.heap[wc.heap.size]? = some (.cells #[.int .i64 x.lv] 3 (0, 0)) := hb_alloc (hb_new _ _) _
        have w3s : ((wc.alloc (.cells #[.int .i64 x.lv] 3)).alloc (.cells #[.slice none 0 0] 88)).drew.heap[wc.heap.size + 1]? = some (.cells #[.slice none 0 0] 88 (0, 0)) := by
          have h := hb_new (wc.alloc (.cells #[.int .i64 x.lv] 3)) (.cells #[.slice none 0 0] 88)
          rw [World.size_alloc] at h
          exact h
        have HWALK := Lib.hid (walk_any c A _ w.heap.size w.heap.size (wc.heap.size + 1) (w.heap.size + 1) wc.heap.size a x.lv b hA hF hL (H0.out.below HW5.out) hbl hw0 hw1 (by omega) HW5.out.size htot w0s w1s w2s (Nat.le_refl _) (by omega) (by omega) w3s (by omega))
        have HC0 := Lib.hid w0s
        have HC2 := Lib.hid w2s
        clear w0s w1s w2s w3s
        go_wp2_with (go_at_call 76; (with_reducible refine HWALK.out.mono ?_); rintro e w6 ⟨r, rfl, hst, hkq, ht, hf⟩; have HST := Lib.hid hst; have HKQ := Lib.hid hkq; have HTT := Lib.hid ht; have HFF := Lib.hid hf; clear hst hkq ht hf; cases r; rotate_left; (obtain ⟨I, o, hib, hio, hIl, hI1, hI5, hIr⟩ := HTT.out rfl); (obtain ⟨vI, i1, i2, i3, i4⟩ := hib); (obtain ⟨qI, cI, rfl, hcI, hlI⟩ := i2.shape); have i0 := hb_at i1 0 rfl; rotate_left)
        · go_ret
          refine ⟨false, rfl, kp_of_kq HW5.out (by omega) HKQ.out (by omega), (fun h => by cases h), fun _ => ⟨?_, ?_⟩⟩
          · rw [HT.out]
            rcases HFF.out trivial with ⟨h1, _⟩ | ⟨z, h1, h2, h3⟩
            · exact .inl h1
            · exact .inr ⟨z, h1, h2, by rw [hlva]; exact h3⟩
          · exact HST.out
        · have HI2 := Lib.hid i2
          have HIs := Lib.hid (And.intro hI1 (And.intro hI5 hIr))
          have hz6 := HKQ.out.size
          have hz5 := HW5.out.size
          have HIO : RowKit.Hid (∀ k i, I[k]? = some i → ∃ gi, qI = some ⟨gi, 0, none⟩ ∧ w6.cell? ⟨gi, k, none⟩ = some (intV i) ∧ ∃ cs, w6.heap[gi]? = some (.cells cs 3 (0, 0)) ∧ w.heap.size ≤ gi) := Lib.hid fun k i hk => by
            rcases HI2.out.2 with ⟨e, h0⟩ | ⟨gi, cap', cur, e, h3, h4, h5, h6, h7, h8⟩
            · have : I = [] := List.eq_nil_of_length_eq_zero h0
              rw [this] at hk
              simp at hk
            · injection e with e1 _ _
              refine ⟨gi, e1, ?_, cur, h4, h3⟩
              rw [Nat.mul_one] at h8
              have hkl := (List.getElem?_eq_some_iff.1 hk).1
              have e2 : (cur.toList.take I.length)[k]? = (I.map intV)[k]? := by rw [h8]
              rw [List.getElem?_take, if_pos hkl, List.getElem?_map, hk] at e2
              rw [hb_cell h4, ← Array.getElem?_toList, e2]
              rfl
          clear hI1 hI5 hIr i1 i2 i0 hio
          have HC06 := Lib.hid (HKQ.out.block _ _ HC0.out (by omega) (by omega) (fun cs fr e => by injection e with _ e2 _; exact absurd e2 (by decide)))
          have HC26 := Lib.hid (HKQ.out.block _ _ HC2.out (by omega) (by omega) (fun cs fr e => by injection e with _ e2 _; exact absurd e2 (by decide)))
          go_loopw [55] (fun t wr => ∃ k : Nat, t = .int .i64 k ∧ k ≤ I.length ∧ St { c with wks := c.wks + 1 } (lvl A (mk A x.lv I k)) wr ∧ Kp { c with wks := c.wks + 1 } w6 wr) (fun t _ => I.length - (intOf t).toNat)
          case atStart => exact ⟨0, rfl, Nat.zero_le _, by rw [mk_zero]; exact HST.out, Kp.refl _ _⟩
          case round =>
            obtain ⟨k, rfl, hkl, hst, hkp⟩ := hrel
            have HSR := Lib.hid hst
            have HKR := Lib.hid hkp
            clear hst hkp
            by_cases hlt : k < I.length
            · have hki : (k : Int) < (I.length : Int) := by omega
              have hik := List.getElem?_eq_getElem hlt
              generalize I[k] = i at hik
              obtain ⟨gi, rfl, e0, cs, e1, e2⟩ := HIO.out k i hik
              have f0 := hb_at (HKR.out.block gi _ e1 (by show gi ≠ c.B; omega) (fun cs fr e => by injection e with _ e2 _; exact absurd e2 (by decide))) k (by rw [hb_cell e1] at e0; exact e0)
              have f1 := hb_at (HKR.out.block _ _ HC06.out (by show _ ≠ c.B; omega) (fun cs fr e => by injection e with _ e2 _; exact absurd e2 (by decide))) 0 rfl
              have f2 := hb_at (HKR.out.block _ _ HC26.out (by show _ ≠ c.B; omega) (fun cs fr e => by injection e with _ e2 _; exact absurd e2 (by decide))) 0 rfl
              obtain ⟨vq, Lq, rkq, r1, r2, r3⟩ := HSR.out
              have hreach := HIs.out.2.2 i (List.mem_of_getElem? hik)
              have hil : i < Lq.length := by
                rw [← r2.len]
                have h7 := hreach.2
                have h8 := reach_root hA hreach.1
                unfold Abs.kd at h7
                rw [h8] at h7
                cases e : A.l[i]? with
                | none => simp [e] at h7
                | some y => exact (List.getElem?_eq_some_iff.1 e).1
              have hy : Lq[i]? = some (Lq[i]) := List.getElem?_eq_getElem hil
              generalize Lq[i] = y at hy
              obtain ⟨gq, capq, rfl, hgB, hg0, hc1, hc2, s0, s1, s2, s3, s4, y0, y1, y2, y3, y4, y5, y6, y7, y8, hfz⟩ := r1.at hy
              have hlt2 : (i : Int) < (Lq.length : Int) := by omega
              have hfz4 := hfz (i * 9 + 4)
              have R1 := Lib.hid r1
              have R2 := Lib.hid r2
              have R3 := Lib.hid r3
              have HY := Lib.hid hy
              have HIK := Lib.hid hik
              clear r1 r2 r3 hy hik s1 s2 s3 s4 y0 y1 y2 y3 y5 y6 y7 y8 hfz e0 e1 hreach
              go_wp2
              go_region
              all_goals go_wp2
              all_goals
                obtain ⟨t1, t2⟩ := StL.put (y := { y with lv := if x.lv < y.lv then x.lv else y.lv }) R1.out HY.out (f := 4) (u := .int .i64 (if x.lv < y.lv then x.lv else y.lv)) (by omega) (fun q => by
                  match q with
                  | 0 => rfl
                  | 1 => rfl
                  | 2 => rfl
                  | 3 => rfl
                  | 4 => rfl
                  | 5 => rfl
                  | 6 => rfl
                  | 7 => rfl
                  | 8 => rfl
                  | q + 9 => rfl) rfl rfl
                have hmk : mk A x.lv I k i = y.lv := R2.out.lv i y HY.out
                have hst : St { c with wks := c.wks + 1 } (lvl A (mk A x.lv I (k + 1))) (wr.setCell ⟨gq, i * 9 + 4, none⟩ (.int .i64 (if x.lv < y.lv then x.lv else y.lv))) := ⟨_, _, rkq, t1, R2.out.lvl HY.out _ (fun j hj => by
                  rw [mk_next A x.lv I HIK.out j, hmk]
                  by_cases e : j = i
                  · rw [if_pos e, if_pos e]
                    split <;> omega
                  · rw [if_neg e, if_neg e]; rfl), R3.out.lvl HY.out _ _⟩
                refine ⟨⟨k + 1, by go_num, by omega, hst.below (Below.refl _ _).drew, HKR.out.trans (t2.trans (Kp.of_below (by have := t1.hb; have := t1.lt; omega) (Below.refl _ _).drew))⟩, by simp [intOf]; omega⟩
            · have hki : ¬ (k : Int) < (I.length : Int) := by omega
              obtain rfl : k = I.length := by omega
              have hC1 := HKQ.out.block _ _ (hb_alloc (hb_alloc HB1.out (.cells #[.int .i64 x.lv] 3)) (.cells #[.slice none 0 0] 88)) (by omega) (by omega) (fun cs fr e => by injection e with _ e2 _; exact absurd e2 (by decide))
              have f1 := hb_at (HKR.out.block _ _ HC06.out (by show _ ≠ c.B; omega) (fun cs fr e => by injection e with _ e2 _; exact absurd e2 (by decide))) 0 rfl
              have f2 := hb_at (HKR.out.block _ _ hC1 (by show _ ≠ c.B; omega) (fun cs fr e => by injection e with _ e2 _; exact absurd e2 (by decide))) 0 rfl
              obtain ⟨vq, Lq, rkq, r1, r2, r3⟩ := HSR.out
              have hal2 : a < Lq.length := by rw [← r2.len]; exact hal
              have hbl2 : b < Lq.length := by rw [← r2.len]; exact hbl
              have hy : Lq[a]? = some (Lq[a]) := List.getElem?_eq_getElem hal2
              generalize Lq[a] = y at hy
              obtain ⟨gq, capq, rfl, hgB, hg0, hc1, hc2, s0, s1, s2, s3, s4, y0, y1, y2, y3, y4, y5, y6, y7, y8, hfz⟩ := r1.at hy
              have hlt2 : (a : Int) < (Lq.length : Int) := by omega
              have hfz6 := hfz (a * 9 + 6)
              have R1 := Lib.hid r1
              have R2 := Lib.hid r2
              have R3 := Lib.hid r3
              have HY := Lib.hid hy
              clear r1 r2 r3 hy s1 s2 s3 s4 y0 y1 y2 y3 y4 y5 y7 y8 hfz hC1
              go_wp2
              go_region
              all_goals go_wp2
              all_goals go_ret
              all_goals
                obtain ⟨t1, t2⟩ := StL.put (y := { y with be := (b : Int) }) R1.out HY.out (f := 6) (u := .int .i64 (b : Int)) (by omega) (fun q => by
                  match q with
                  | 0 => rfl
                  | 1 => rfl
                  | 2 => rfl
                  | 3 => rfl
                  | 4 => rfl
                  | 5 => rfl
                  | 6 => rfl
                  | 7 => rfl
                  | 8 => rfl
                  | q + 9 => rfl) rfl rfl
                have hex := R3.out.same (SameBe.set HY.out (b : Int))
                have hbd := R2.out.bind HY.out hra hrb hbl2 hab
                have hst : St { c with wks := c.wks + 1 } (A.bind a b (mk A x.lv I I.length)) (wr.setCell ⟨gq, a * 9 + 6, none⟩ (.int .i64 (b : Int))) := ⟨_, _, _, t1, hbd, ⟨fun j z hz hp θ θ' h1 h2 => hex.pl j z hz hp θ θ' ((Abs.bind_mod hA hra hrb hal hbl θ).1 h1).1 ((Abs.bind_mod hA hra hrb hal hbl θ').1 h2).1, hex.wk⟩⟩
                rw [← hlva, mk_all A (fun z h1 h2 => (HIs.out.1 z h1 h2).2) HIs.out.2.2] at hst
                have hkp6 := kp_of_kq HW5.out (by omega) HKQ.out (by omega)
                have hkpr : Kp c w6 wr := ⟨HKR.out.below, HKR.out.size, HKR.out.block⟩
                have ht2 : Kp c wr _ := ⟨t2.below, t2.size, t2.block⟩
                refine ⟨true, rfl, (hkp6.trans hkpr).trans (ht2.trans (Kp.of_below (Nat.le_of_lt (Nat.lt_of_le_of_lt (show c.b0 ≤ c.B from t1.hb) t1.lt)) (Below.refl _ _).drew)), fun _ => ?_, (fun h => by cases h)⟩
                rw [HT.out]
                refine ⟨?_, hst.below (Below.refl _ _).drew⟩
                rintro (h1 | ⟨z, h1, h2, h3⟩)
                · exact (HIs.out.1 a h1 hka).1 rfl
                · have := HIs.out.2.1 z h1 h2
                  have h3 : A.lv a < A.lv z := h3
                  omega
end Go.Proofs.YtncebhddcokkoaaDoor
/- Are all these types? -/
namespace Go.Proofs.YtncebhddcokkoaaDoor
open Go.RowKit
set_option linter.unusedSimpArgs false
set_option linter.unusedVariables false
/-- Numbers in memory. -/
def Ints (w : World) (q : Option Addr) (l : List Int) : Prop := ∀ (j : Nat) (y : Int), l[j]? = some y → ∃ g o, q = some ⟨g, o, none⟩ ∧ w.cell? ⟨g, o + j, none⟩ = some (.int .i64 y)
theorem Ints.below {w w' : World} {q : Option Addr} {l : List Int} (h : Ints w q l) (hb : Below w.heap.size w w') : Ints w' q l := by
  intro j y hy
  obtain ⟨g, o, e, hc⟩ := h j y hy
  exact ⟨g, o, e, by rw [hb.cell (block_lt_of_cell hc)]; exact hc⟩
theorem has1_any (c : Cfg) (v : Value) (L : List Nd) (W : World) (bs : Nat) (i : Int) (h : StL c v L W) (hs : W.heap[bs]? = some (.cells #[.pointer (some ⟨c.B, 0, none⟩)] 51 (0, 0))) :
    Calls Tryd.prog 74 #[.int .i64 i, .pointer (some ⟨bs, 0, none⟩)] W fun e W' => e = .returned (.bool (decide (i < 0 ∨ (L.length : Int) ≤ i))) ∧ W' = W := by
  obtain ⟨s0, s1, s2, s3, s4, ⟨q, cap, rfl⟩, _⟩ := h.own5
  have b0 := hb_at hs 0 rfl
  clear h hs s1 s2 s3 s4
  by_cases h0 : i < 0
  · have e : decide (i < 0 ∨ (L.length : Int) ≤ i) = true := by simp [h0]
    rw [e]
    clear e
    go_enter Tryd.func74, Tryd.ntmps74
    go_wp2
    go_ret
    exact ⟨rfl, rfl⟩
  · by_cases h1 : (L.length : Int) ≤ i
    · have e : decide (i < 0 ∨ (L.length : Int) ≤ i) = true := by simp [h1]
      rw [e]
      clear e
      go_enter Tryd.func74, Tryd.ntmps74
      go_wp2
      go_ret
      exact ⟨by simp [h1], rfl⟩
    · have e : decide (i < 0 ∨ (L.length : Int) ≤ i) = false := by simp [h0, h1]
      rw [e]
      clear e
      go_enter Tryd.func74, Tryd.ntmps74
      go_wp2
      go_ret
      exact ⟨by simp [h1], rfl⟩
set_option maxRecDepth 100000 in
theorem index_has (c : Cfg) (v : Value) (L : List Nd) (w : World) (bs : Nat) (q : Option Addr) (l : List Int) (cc : Nat) (h : StL c v L w) (hs : w.heap[bs]? = some (.cells #[.pointer (some ⟨c.B, 0, none⟩)] 51 (0, 0))) (hl : Ints w q l) (hn : l.length ≤ 1000000) :
    Calls Tryd.prog 75 #[.slice q l.length cc, .func (.func 74) #[] #[.pointer (some ⟨bs, 0, none⟩)]] w fun e w' => (∃ r : Int, e = .returned (.int .i64 r) ∧ (r ≥ 0 ↔ ∃ i ∈ l, i < 0 ∨ (L.length : Int) ≤ i)) ∧ Below w.heap.size w w' := by
  have HA := Lib.hid fun (W : World) (hW : Below w.heap.size w W) (i : Int) => has1_any c v L W bs i (h.below hW) (hb_below hs hW (hb_lt hs))
  have HL := Lib.hid hl
  clear h hs hl
  go_enter Tryd.func75, Tryd.ntmps75
  go_wp2
  go_loopw [8] (fun t wr => ∃ k : Nat, t = .int .i64 k ∧ k ≤ l.length ∧ Below w.heap.size w wr ∧ ∀ i ∈ l.take k, ¬ (i < 0 ∨ (L.length : Int) ≤ i)) (fun t _ => l.length - (intOf t).toNat)
  case atStart => exact ⟨0, rfl, Nat.zero_le _, Below.refl _ _, fun i hi => by simp at hi⟩
  case round =>
    obtain ⟨k, rfl, hk, hb, hall⟩ := hrel
    have HALL := Lib.hid hall
    have HB := Lib.hid hb
    clear hall hb
    by_cases hlt : k < l.length
    · have hki : (k : Int) < (l.length : Int) := by omega
      have hy := List.getElem?_eq_getElem hlt
      generalize l[k] = y at hy
      obtain ⟨g, o, rfl, hc⟩ := (HL.out.below HB.out) k y hy
      have HA2 := Lib.hid (HA.out wr HB.out y)
      have HY := Lib.hid hy
      clear hy
      by_cases hbad : y < 0 ∨ (L.length : Int) ≤ y
      · have hd : decide (y < 0 ∨ (L.length : Int) ≤ y) = true := by simpa using hbad
        rw [hd] at HA2
        have HBD := Lib.hid hbad
        clear hd hbad
        go_wp2_with (go_at_call 74; (with_reducible refine HA2.out.mono ?_); rintro e w1 ⟨rfl, rfl⟩)
        all_goals go_ret
        all_goals exact ⟨⟨k, rfl, ⟨fun _ => ⟨y, List.mem_of_getElem? HY.out, HBD.out⟩, fun _ => by omega⟩⟩, HB.out⟩
      · have hd : decide (y < 0 ∨ (L.length : Int) ≤ y) = false := by simpa using hbad
        rw [hd] at HA2
        have HBD := Lib.hid hbad
        clear hd hbad
        go_wp2_with (go_at_call 74; (with_reducible refine HA2.out.mono ?_); rintro e w1 ⟨rfl, rfl⟩)
        refine ⟨⟨k + 1, by go_num, by omega, HB.out, fun i hi => ?_⟩, by simp [intOf]; omega⟩
        have e : l.take (k + 1) = l.take k ++ [y] := by rw [List.take_add_one, HY.out]; rfl
        rw [e] at hi
        rcases List.mem_append.1 hi with hi | hi
        · exact HALL.out i hi
        · cases List.mem_singleton.1 hi; exact HBD.out
    · have hki : ¬ (k : Int) < (l.length : Int) := by omega
      obtain rfl : k = l.length := by omega
      rw [List.take_length] at HALL
      go_wp2
      go_ret
      exact ⟨⟨-1, rfl, ⟨fun h => by omega, fun ⟨i, hi, h⟩ => absurd h (HALL.out i hi)⟩⟩, HB.out⟩
set_option maxRecDepth 100000 in
theorem contains_has (c : Cfg) (v : Value) (L : List Nd) (w : World) (bs : Nat) (q : Option Addr) (l : List Int) (cc : Nat) (h : StL c v L w) (hs : w.heap[bs]? = some (.cells #[.pointer (some ⟨c.B, 0, none⟩)] 51 (0, 0))) (hl : Ints w q l) (hn : l.length ≤ 1000000) :
    Calls Tryd.prog 51 #[.slice q l.length cc, .func (.func 74) #[] #[.pointer (some ⟨bs, 0, none⟩)]] w fun e w' => (∃ r, e = .returned (.bool r) ∧ (r = true ↔ ∃ i ∈ l, i < 0 ∨ (L.length : Int) ≤ i)) ∧ Below w.heap.size w w' := by
  have HI := Lib.hid (index_has c v L w bs q l cc h hs hl hn)
  clear h hs hl
  go_enter Tryd.func51, Tryd.ntmps51
  go_wp2_with (go_at_call 75; (with_reducible refine HI.out.mono ?_); rintro e w1 ⟨⟨r, rfl, hr⟩, hb⟩; have HR := Lib.hid hr; have HB := Lib.hid hb; clear hr hb)
  all_goals go_ret
  all_goals exact ⟨⟨_, rfl, by simpa using HR.out⟩, HB.out⟩
set_option maxRecDepth 100000 in
theorem has_any (c : Cfg) (v : Value) (L : List Nd) (w : World) (q : Option Addr) (l : List Int) (cc : Nat) (h : StL c v L w) (hl : Ints w q l) (hn : l.length ≤ 1000000) :
    Calls Tryd.prog 50 #[.pointer (some ⟨c.B, 0, none⟩), .slice q l.length cc] w fun e w' => (∃ r, e = .returned (.bool r) ∧ (r = true ↔ c.full = false ∧ ∀ i ∈ l, 0 ≤ i ∧ i < (L.length : Int))) ∧ Below w.heap.size w w' := by
  have hb1 := below_alloc w (.cells #[.pointer (some ⟨c.B, 0, none⟩)] 51)
  have HS := Lib.hid (h.below hb1)
  have hs := hb_new w (.cells #[.pointer (some ⟨c.B, 0, none⟩)] 51)
  have HL := Lib.hid (hl.below hb1)
  have HB := Lib.hid hb1
  have b0 := hb_at hs 0 rfl
  clear h hl hb1
  go_enter Tryd.func50, Tryd.ntmps50
  go_upto_region 1 with (fail)
  generalize w.alloc (.cells #[.pointer (some ⟨c.B, 0, none⟩)] 51) = W1 at *
  have HC := Lib.hid (contains_has c v L W1 w.heap.size q l cc HS.out hs HL.out hn)
  clear hs
  cases hf : c.full with
  | true =>
    go_wp2_with (go_at_call 28; (refine (full_any c _ L _ HS.out).mono ?_); rintro e w' ⟨rfl, rfl⟩; rw [hf])
    all_goals go_ret
    all_goals exact ⟨⟨false, rfl, by simp [hf]⟩, HB.out⟩
  | false =>
    go_wp2_with (first
      | (go_at_call 28; (refine (full_any c _ L _ HS.out).mono ?_); rintro e w' ⟨rfl, rfl⟩; rw [hf])
      | (go_at_call 51; (with_reducible refine HC.out.mono ?_); rintro e w2 ⟨⟨r, rfl, hr⟩, hb⟩; have HR := Lib.hid hr; have HB2 := Lib.hid (HB.out.trans (hb.mono HB.out.size)); clear hr hb))
    all_goals go_ret
    all_goals
      refine ⟨⟨!r, rfl, ?_⟩, HB2.out⟩
      have h1 := HR.out
      cases r with
      | true =>
        obtain ⟨i, hi, h2⟩ := h1.1 rfl
        refine ⟨fun h => by simp at h, fun ⟨_, h⟩ => ?_⟩
        have := h i hi
        omega
      | false =>
        refine ⟨fun _ => ⟨hf, fun i hi => ?_⟩, fun _ => rfl⟩
        have h3 : ¬ (i < 0 ∨ (L.length : Int) ≤ i) := fun h4 => by
          have := h1.2 ⟨i, hi, h4⟩
          cases this
        omega
end Go.Proofs.YtncebhddcokkoaaDoor
