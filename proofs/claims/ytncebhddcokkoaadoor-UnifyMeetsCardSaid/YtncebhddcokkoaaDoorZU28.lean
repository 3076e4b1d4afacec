/- Texts in a row: Lh Li Lj. -/
import Derived.Test.YtncebhddcokkoaaDoorZU27
/- A type is told: a variable. -/
namespace Go.Proofs.YtncebhddcokkoaaDoor
open Go.RowKit Go.Maps
set_option linter.unusedSimpArgs false
set_option linter.unusedVariables false
theorem SV.kpM {X : Nat → Prop} {c : Cfg} {N : Nat} {A : Abs} {ns : List ByteArray} {ρ : ByteArray → Option Nat} {sv nv : Value} {M P bl : Nat} {w w' : World} (h : SV X c N A ns ρ sv nv M P w) (hst : StA X c A w') (k : KpM c bl w w') {cs : Array Value} {fr : Nat × Nat} (hbl : w.heap[bl]? = some (.cells cs 3 fr)) : SV X c N A ns ρ sv nv M P w' := by
  obtain ⟨v, L, rk, p1, _, _, _⟩ := h.st
  have hB := p1.blk
  have hmap : ∀ (m : Nat) es cl, w.heap[m]? = some (.map es cl) → w'.heap[m]? = w.heap[m]? := fun m es cl hm => by
    rw [hm]
    refine k.block m _ hm (fun e => ?_) (fun e => ?_) (fun cs fr e => by cases e)
    · rw [e, hB] at hm; cases hm
    · rw [e, hbl] at hm; cases hm
  obtain ⟨es, cl, hm⟩ := h.vm.heap
  obtain ⟨g, hg, hgp⟩ := h.pl
  obtain ⟨es', cl', hm'⟩ := hg.heap
  refine ⟨hst, h.ty, h.rest, own_kept h.row (fun b y hb hy => ?_), h.vm.same (hmap _ _ _ hm), ⟨g, hg.same (hmap _ _ _ hm'), hgp⟩, h.few, h.dom⟩
  have hb2 : ∃ cs', w.heap[b]? = some (.cells cs' 9 (0, 0)) := by
    rcases h.row.2 with ⟨rfl, _⟩ | ⟨g', cap, cur, rfl, _, h4, _⟩
    · cases hb
    · injection hb with hb
      subst hb
      exact ⟨_, h4⟩
  obtain ⟨cs', hb2⟩ := hb2
  rw [hb2] at hy
  cases hy
  refine k.kept hb2 (fun e => ?_) (fun e => ?_) (by decide)
  · have := type_ne (hb2) hB (by rw [h.ty]; decide)
    exact this e
  · exact type_ne hb2 hbl (by decide) e
/-- A cell of a block that is no store's is stored. -/
theorem StA.other {X : Nat → Prop} {c : Cfg} {A : Abs} {w : World} (h : StA X c A w) {n : Nat} {cs : Array Value} {t : TypeId} {fr : Nat × Nat} (hc : w.heap[n]? = some (.cells cs t fr)) (h3 : t ≠ 3) (h90 : t ≠ 90) (hB : n ≠ c.B) (i : Nat) (u : Value) : StA X c A (w.setCell ⟨n, i, none⟩ u) := by
  obtain ⟨v, L, rk, p1, h2, h3', h4⟩ := h
  refine ⟨v, L, rk, ⟨p1.hb, p1.ne, hb_set_other p1.blk u (fun e => hB e.symm), ?_, fun x hx => ?_, p1.few⟩, h2, h3', h4⟩
  · rcases p1.row with h1 | ⟨g, cap, cur, h1, h2, h3, h4⟩
    · exact .inl h1
    · exact .inr ⟨g, cap, cur, h1, h2, hb_set_other h3 u (fun e => type_ne h3 hc (fun e => h90 e.symm) e), h4⟩
  · obtain ⟨q, cc, e1, e2⟩ := p1.kid x hx
    refine ⟨q, cc, e1, ?_⟩
    rcases e2 with e2 | ⟨g, o, cs', fr', e, hg, hB', hc'⟩
    · exact .inl e2
    · exact .inr ⟨g, o, cs', fr', e, hb_set_other hg u (fun e5 => type_ne hg hc (fun e => h3 e.symm) e5), hB', hc'⟩
/-- Five cells of a block are stored. -/
abbrev put5 (w : World) (b : Nat) (v0 v1 v2 v3 v4 : Value) : World := ((((w.setCell ⟨b, 0, none⟩ v0).setCell ⟨b, 1, none⟩ v1).setCell ⟨b, 2, none⟩ v2).setCell ⟨b, 3, none⟩ v3).setCell ⟨b, 4, none⟩ v4
theorem put5_other {w : World} {b g : Nat} {x : Obj} (h : w.heap[g]? = some x) (hg : g ≠ b) (v0 v1 v2 v3 v4 : Value) : (put5 w b v0 v1 v2 v3 v4).heap[g]? = some x :=
  hb_set_other (hb_set_other (hb_set_other (hb_set_other (hb_set_other h v0 hg) v1 hg) v2 hg) v3 hg) v4 hg
theorem StA.put5 {X : Nat → Prop} {c : Cfg} {A : Abs} {w : World} (h : StA X c A w) {n : Nat} {cs : Array Value} {fr : Nat × Nat} (hc : w.heap[n]? = some (.cells cs 36 fr)) (hB : n ≠ c.B) (v0 v1 v2 v3 v4 : Value) : StA X c A (put5 w n v0 v1 v2 v3 v4) := by
  have h0 := h.other hc (by decide) (by decide) hB 0 v0
  have c0 := hb_set_same hc 0 v0
  have h1 := h0.other c0 (by decide) (by decide) hB 1 v1
  have c1 := hb_set_same c0 1 v1
  have h2 := h1.other c1 (by decide) (by decide) hB 2 v2
  have c2 := hb_set_same c1 2 v2
  have h3 := h2.other c2 (by decide) (by decide) hB 3 v3
  have c3 := hb_set_same c2 3 v3
  exact h3.other c3 (by decide) (by decide) hB 4 v4
theorem KpM.put5 {c : Cfg} {M n : Nat} {w w1 : World} (h : KpM c M w w1) (hn : w.heap.size ≤ n) (hb : c.b0 ≤ w.heap.size) (v0 v1 v2 v3 v4 : Value) : KpM c M w (put5 w1 n v0 v1 v2 v3 v4) :=
  ((((h.set_new hn hb 0 v0).set_new hn hb 1 v1).set_new hn hb 2 v2).set_new hn hb 3 v3).set_new hn hb 4 v4
/-- The map's own block, or a box, is stored. -/
theorem KpM.set_own {c : Cfg} {M : Nat} {w w1 : World} (h : KpM c M w w1) (hb : c.b0 ≤ M) (i : Nat) (u : Value) : KpM c M w (w1.setCell ⟨M, i, none⟩ u) :=
  ⟨h.below.setCell hb _, by rw [show (w1.setCell ⟨M, i, none⟩ u).heap.size = w1.heap.size by simp [World.setCell]]; exact h.size, fun g x h1 h2 h3 h4 => hb_set_other (h.block g x h1 h2 h3 h4) u (fun e => h3 e)⟩
/-- tell's boxes. -/
structure Tb (c : Cfg) (bl bs bv bt bq : Nat) (w : World) : Prop where
  hs : w.heap[bs]? = some (.cells #[.pointer (some ⟨c.B, 0, none⟩)] 51 (0, 0))
  hv : w.heap[bv]? = some (.cells #[.func (.func 72) #[] #[.pointer (some ⟨bq, 0, none⟩)]] 98 (0, 0))
  ht : w.heap[bt]? = some (.cells #[.func (.func 78) #[] #[.pointer (some ⟨bl, 0, none⟩), .pointer (some ⟨bs, 0, none⟩), .pointer (some ⟨bv, 0, none⟩), .pointer (some ⟨bt, 0, none⟩)]] 98 (0, 0))
  hq : w.heap[bq]? = some (.cells #[.pointer (some ⟨c.B, 0, none⟩)] 68 (0, 0))
  nB : c.B ≠ bl ∧ c.B ≠ bs ∧ c.B ≠ bv ∧ c.B ≠ bt ∧ c.B ≠ bq
  nl : bl ≠ bs ∧ bl ≠ bv ∧ bl ≠ bt ∧ bl ≠ bq
  b0 : c.b0 ≤ bl
set_option maxRecDepth 100000 in
theorem Tb.kept {c : Cfg} {bl bs bv bt bq : Nat} {w w' : World} (h : Tb c bl bs bv bt bq w) (k : KpM c bl w w') : Tb c bl bs bv bt bq w' := by
  have h1 := h.nB; have h2 := h.nl
  exact ⟨k.kept h.hs (by omega) (by omega) (by decide), k.kept h.hv (by omega) (by omega) (by decide), k.kept h.ht (by omega) (by omega) (by decide), k.kept h.hq (by omega) (by omega) (by decide), h1, h2, h.b0⟩
/-- What telling a type leaves. -/
def ToldQ (c : Cfg) (N : Nat) (A : Abs) (ns : List ByteArray) (ρ : ByteArray → Option Nat) (sv nv : Value) (M P bl : Nat) (t : Tm) (n : Nat) (w : World) (e : Ending) (w' : World) : Prop :=
  ∃ (k I : Int) (p m : ByteArray) (q : Option Addr) (l cc : Nat), e = .returned (tv k p m I (.slice q l cc)) ∧ SV (fun g => g = bl) c N A ns ρ sv nv M P w' ∧ KpM c bl w w' ∧
    (cnt2 t ≤ n → w'.heap[bl]? = some (.cells #[.int .i64 ((n - cnt2 t : Nat) : Int)] 3 (0, 0)) ∧ ∀ D, cnt2 t ≤ D → IsX (Tx w.heap.size c bl w') w' D (tv k p m I (.slice q l cc)) t) ∧
    (n < cnt2 t → w'.heap[bl]? = some (.cells #[.int .i64 (-1)] 3 (0, 0)))
set_option maxRecDepth 100000 in
set_option maxHeartbeats 1000000 in
theorem told_var {c : Cfg} {N : Nat} {A : Abs} {ns : List ByteArray} {ρ : ByteArray → Option Nat} {sv nv : Value} {M P bl bs bv bt bq : Nat} {w : World} {i n : Nat} {X : Inf} {nm : ByteArray} (h : SV (fun g => g = bl) c N A ns ρ sv nv M P w) (hb : Tb c bl bs bv bt bq w) (hl : w.heap[bl]? = some (.cells #[.int .i64 (n : Nat)] 3 (0, 0))) (hn : 1 ≤ n) (hn2 : n ≤ 1000) (hi : i < A.l.length) (hX : A.l[A.r i]? = some X) (hk : X.k = 1) (hρ : ρ nm = some (A.r i)) (hns : nm.size ≤ maxLen) :
    Calls Tryd.prog 78 #[.int .i64 (i : Nat), .pointer (some ⟨bl, 0, none⟩), .pointer (some ⟨bs, 0, none⟩), .pointer (some ⟨bv, 0, none⟩), .pointer (some ⟨bt, 0, none⟩)] w (ToldQ c N A ns ρ sv nv M P bl (vN nm) n w) := by
  have hsz := h.st.st.lt
  have hbw : c.b0 ≤ w.heap.size := by omega
  have hlw := hb_lt hl
  have l0 := hb_at hl 0 rfl
  have lf := hb_free hl 0
  have hk0 := (KpM.refl c bl w).set_own hb.b0 0 (.int .i64 ((n : Int) - 1))
  have hst0 := h.st.put rfl hl (fun e => hb.nB.1 e.symm) 0 (.int .i64 ((n : Int) - 1))
  have hl0 : (w.setCell ⟨bl, 0, none⟩ (.int .i64 ((n : Int) - 1))).heap[bl]? = some (.cells #[.int .i64 ((n : Int) - 1)] 3 (0, 0)) := hb_set_same hl 0 _
  have hsz0 : (w.setCell ⟨bl, 0, none⟩ (.int .i64 ((n : Int) - 1))).heap.size = w.heap.size := by simp [World.setCell]
  have hba := below_alloc (w.setCell ⟨bl, 0, none⟩ (.int .i64 ((n : Int) - 1))) (.cells #[.int .i64 0, .string ⟨#[]⟩, .string ⟨#[]⟩, .int .i64 0, .slice none 0 0] 36)
  have hk1 := hk0.trans (KpM.of_below (c := c) (M := bl) (by rw [hsz0]; exact hbw) hba)
  have hst1 := hst0.below hba
  have hl1 := hb_below hl0 hba (hb_lt hl0)
  have h61 := hb_new (w.setCell ⟨bl, 0, none⟩ (.int .i64 ((n : Int) - 1))) (.cells #[.int .i64 0, .string ⟨#[]⟩, .string ⟨#[]⟩, .int .i64 0, .slice none 0 0] 36)
  rw [hsz0] at h61
  have hb1 := hb.kept hk1
  have h1 := h.kpM hst1 hk1 hl
  have HF := Lib.hid fun (W : World) (hW : StA (fun g => g = bl) c A W) => find_stA hW hi
  have H := Lib.hid h
  have HL := Lib.hid hl
  have HB := Lib.hid hb
  have HK1 := Lib.hid hk1
  have HST1 := Lib.hid hst1
  have HL1 := Lib.hid hl1
  have H61 := Lib.hid h61
  have HB1 := Lib.hid hb1
  have H1 := Lib.hid h1
  have HXX := Lib.hid hX
  have HRI := Lib.hid hρ
  clear h hb hl hk1 hst1 hl1 h61 hb1 h1 hba hk0 hst0 hl0 hX hρ
  go_enter Tryd.func78, Tryd.ntmps78
  go_upto_region 2 with (fail)
  generalize (w.setCell ⟨bl, 0, none⟩ (.int .i64 ((n : Int) - 1))).alloc (.cells #[.int .i64 0, .string ⟨#[]⟩, .string ⟨#[]⟩, .int .i64 0, .slice none 0 0] 36) = W1 at *
  have s0 := hb_at HB1.out.hs 0 rfl
  have hgen : ∀ w3, StA (fun g => g = bl) c A w3 → ∃ g cap m, w3.cell? ⟨c.B, 0, none⟩ = some (.slice (some ⟨g, 0, none⟩) m cap) ∧ A.r i < m ∧ m ≤ 100000 ∧ w3.cell? ⟨g, A.r i * 9, none⟩ = some (.int .i64 X.k) := by
    rintro w3 ⟨v, L, rk, p1, p2, _, _⟩
    obtain ⟨x, hx, hxi⟩ := p2.back HXX.out
    obtain ⟨g, cap, rfl, hgB, hg0, hc1, hc2, t0, t1, t2, t3, t4, x0, x1, x2, x3, x4, x5, x6, x7, x8, hfz⟩ := p1.at hx
    rw [hxi] at x0
    exact ⟨g, cap, L.length, t0, (List.getElem?_eq_some_iff.1 hx).1, p1.few, x0⟩
  have HGEN := Lib.hid hgen
  clear hgen
  go_upto_region 3 with (go_at_call 55; go_loud ((with_reducible refine (HF.out _ HST1.out).mono ?_); rintro e w3 ⟨rfl, h3, k3⟩; have HST3 := Lib.hid h3; have HK3 := Lib.hid (HK1.out.trans k3.m); have H3 := Lib.hid (H1.out.kpM h3 k3.m HL1.out); have HB3 := Lib.hid (HB1.out.kept k3.m); have hb1' := HB1.out.nB; have HL3 := Lib.hid (k3.block _ _ HL1.out (fun e => hb1'.1 e.symm) (fun cs fr e => by injection e with _ e _; exact absurd e (by decide))); have h63 := k3.block _ _ H61.out (by omega) (fun cs fr e => by injection e with _ e _; exact absurd e (by decide)); have H63 := Lib.hid h63; obtain ⟨g, cap, m, n0, nlt, nle, n1⟩ := HGEN.out _ h3; have s3 := hb_at HB3.out.hs 0 rfl; have v3 := hb_at HB3.out.hv 0 rfl; clear h3 k3 h63 hb1'))
  rw [hk] at n1
  have nlt2 : ((A.r i : Nat) : Int) < (m : Int) := by omega
  have HT := Lib.hid (told72 H3.out HB3.out.hq HRI.out (by omega))
  go_wp2_with (go_at_call 72; (with_reducible refine HT.out.mono ?_); rintro e w4 ⟨rfl, hb4⟩; have h64 := hb_below H63.out hb4 (hb_lt H63.out); have y0 := hb_at h64 0 rfl; have y1 := hb_at h64 1 rfl; have y2 := hb_at h64 2 rfl; have y3 := hb_at h64 3 rfl; have y4 := hb_at h64 4 rfl; have yf := fun j => hb_free h64 j; have f0 := yf 0; have f1 := yf 1; have f2 := yf 2; have f3 := yf 3; have f4 := yf 4; have HB4 := Lib.hid hb4; have H64 := Lib.hid h64; clear hb4 h64 yf)
  all_goals
    have hsz3 := HK3.out.size
    have hk34 : KpM c bl w w4 := HK3.out.trans (KpM.of_below (by omega) HB4.out)
    have hfin := hk34.put5 (n := w.heap.size) (Nat.le_refl _) hbw (.int .i64 1) (.string ⟨#[]⟩) (.string nm) (.int .i64 0) (.slice none 0 0)
    have hst4 := (HST3.out.below HB4.out).put5 H64.out (by omega) (.int .i64 1) (.string ⟨#[]⟩) (.string nm) (.int .i64 0) (.slice none 0 0)
    have hl4 := put5_other (hb_below HL3.out HB4.out (hb_lt HL3.out)) (show bl ≠ w.heap.size by omega) (.int .i64 1) (.string ⟨#[]⟩) (.string nm) (.int .i64 0) (.slice none 0 0)
    have hc1 : cnt2 (vN nm) = 1 := by rw [cnt2_eq]; rfl
    refine bodyPost_ret (v := tv 1 ⟨#[]⟩ nm 0 (.slice none 0 0)) (by simp [results, Tryd.results78, go_sem, y0, y1, y2, y3, y4]) rfl ⟨1, 0, ⟨#[]⟩, nm, none, 0, 0, rfl, H.out.kpM hst4 hfin HL.out, hfin, fun hcn => ⟨?_, fun D hD => ?_⟩, fun hcn => by omega⟩
    · rw [hl4, hc1]
      have : ((n - 1 : Nat) : Int) = (n : Int) - 1 := by omega
      rw [this]
    · rw [hc1] at hD
      obtain ⟨D, rfl⟩ : ∃ m, D = m + 1 := ⟨D - 1, by omega⟩
      exact ⟨none, 0, rfl, Nat.zero_le _, hns, Nat.zero_le _, fun i x h => by simp at h⟩
end Go.Proofs.YtncebhddcokkoaaDoor
/- A type is told: one of others. -/
namespace Go.Proofs.YtncebhddcokkoaaDoor
open Go.RowKit Go.Maps
set_option linter.unusedSimpArgs false
set_option linter.unusedVariables false
/-- What telling may rely on, at a type whose tree this is. -/
def TellP (c : Cfg) (N : Nat) (A : Abs) (ns : List ByteArray) (ρ : ByteArray → Option Nat) (sv nv : Value) (M P bl bs bv bt bq : Nat) (i : Nat) (t : Tm) : Prop :=
  ∀ (n : Nat) (w : World), SV (fun g => g = bl) c N A ns ρ sv nv M P w → Tb c bl bs bv bt bq w → w.heap[bl]? = some (.cells #[.int .i64 (n : Nat)] 3 (0, 0)) → 1 ≤ n → n ≤ 1000 → i < A.l.length →
    Calls Tryd.prog 78 #[.int .i64 (i : Nat), .pointer (some ⟨bl, 0, none⟩), .pointer (some ⟨bs, 0, none⟩), .pointer (some ⟨bv, 0, none⟩), .pointer (some ⟨bt, 0, none⟩)] w (ToldQ c N A ns ρ sv nv M P bl t n w)
/-- The trees' number, of the first ones. -/
def cs2 (j : Nat) (ts : List Tm) : Nat := ((ts.take j).map cnt2).sum
theorem cs2_next {j : Nat} {ts : List Tm} {t : Tm} (h : ts[j]? = some t) : cs2 (j + 1) ts = cs2 j ts + cnt2 t := by
  unfold cs2
  have hj := (List.getElem?_eq_some_iff.1 h).1
  rw [List.take_succ_eq_append_getElem hj, List.map_append, List.sum_append]
  have : ts[j] = t := by have := List.getElem?_eq_getElem hj; rw [h] at this; exact (Option.some.inj this).symm
  rw [this]
  rfl
theorem cs2_le {j : Nat} {ts : List Tm} : cs2 j ts ≤ (ts.map cnt2).sum := by
  unfold cs2
  have e : ts.map cnt2 = (ts.take j).map cnt2 ++ (ts.drop j).map cnt2 := by rw [← List.map_append, List.take_append_drop]
  rw [e, List.sum_append]
  omega
theorem StA.grown36 {X : Nat → Prop} {c : Cfg} {A : Abs} {w w' : World} {row : Option Nat} (h : StA X c A w) (hg : w.grownBy w' row) (hr : ∀ g, row = some g → g ≠ c.B ∧ ∃ cs, w.heap[g]? = some (.cells cs 36 (0, 0))) : StA X c A w' := by
  refine h.cellsB fun g cs t fr hgg hc => hb_grown hgg hg (fun e => ?_)
  obtain ⟨h1, cs', h2⟩ := hr g e.symm
  rcases hc with rfl | rfl | rfl
  · exact h1 rfl
  · exact type_ne hgg h2 (by decide) rfl
  · exact type_ne hgg h2 (by decide) rfl
theorem KpM.grown_new {c : Cfg} {M : Nat} {w w1 w2 : World} {row : Option Nat} (h : KpM c M w w1) (hg : w1.grownBy w2 row) (hr : ∀ g, row = some g → w.heap.size ≤ g) (hb : c.b0 ≤ w.heap.size) : KpM c M w w2 :=
  ⟨h.below.grown hg (Nat.le_trans hb h.size) (fun k hk => Nat.le_trans hb (hr k hk)), Nat.le_trans h.size hg.size, fun g x h1 h2 h3 h4 => hb_grown (h.block g x h1 h2 h3 h4) hg (fun e => by have := hr g e.symm; have := hb_lt h1; omega)⟩
theorem step_append {ops : Array Oper} {o : Oper} {a : Act} {w : World} {K : Act → World → Prop} {Q : Exit → Act → World → Prop} {E : Prop} (hgd : o.guard = none) (s x : Operand) {t : TypeId}
    (ho : o.op = .call { callee := .builtin .append, args := #[s, x], argTypes := #[t, t] }) (hty : o.type = t) {v u v' : Value} {w' : World} (hs : a.eval s = v) (hx : a.eval x = u) (hrun : (Builtin.append_ #[t, t] t #[v, u]).run Tryd.prog w = .ok v' w') (hK : K (a.put o.dst v') w') :
    if Region.wanted o (yielded ops a.tmps) = true then Oper.wp Tryd.prog o a w K Q else E := by
  have hw : Region.wanted o (yielded ops a.tmps) = true := by simp [Region.wanted, hgd]
  rw [if_pos hw]
  unfold Oper.wp execOp
  simp only [ho, hty, resolve, invoke, builtin, Sem.run_bind, Sem.run_pure, Result.andThen_ok, List.map_toArray, List.map_cons, List.map_nil, hs, hx]
  rw [hrun]
  exact hK
/-- A walk over a type's Kids. -/
structure LT (c : Cfg) (N : Nat) (A : Abs) (ns : List ByteArray) (ρ : ByteArray → Option Nat) (sv nv : Value) (M P bl b6 b8 : Nat) (k : Int) (p m : ByteArray) (ts : List Tm) (n : Nat) (w : World) (j : Nat) (kv : Value) (left : Int) (l : List T5) (wr : World) : Prop where
  sv : SV (fun g => g = bl) c N A ns ρ sv nv M P wr
  kp : KpM c bl w wr
  h6 : wr.heap[b6]? = some (.cells #[.int .i64 0, .string ⟨#[]⟩, .string ⟨#[]⟩, .int .i64 0, .slice none 0 0] 36 (0, 0))
  h8 : wr.heap[b8]? = some (.cells #[.int .i64 k, .string p, .string m, .int .i64 0, kv] 36 (0, 0))
  hl : wr.heap[bl]? = some (.cells #[.int .i64 left] 3 (0, 0))
  row : RowT (b8 + 1) c bl wr kv l
  len : l.length = j
  ok : (left = -1 ∧ n < 1 + (ts.map cnt2).sum) ∨ (left = ((n - 1 - cs2 j ts : Nat) : Int) ∧ cs2 j ts ≤ n - 1 ∧ Dn (b8 + 1) c bl wr kv l (ts.take j))
theorem LT.cut {c : Cfg} {N : Nat} {A : Abs} {ns : List ByteArray} {ρ : ByteArray → Option Nat} {sv nv : Value} {M P bl b6 b8 : Nat} {k : Int} {p m : ByteArray} {ts : List Tm} {n : Nat} {w wr : World} {j : Nat} {kv : Value} {left : Int} {l : List T5} (h : LT c N A ns ρ sv nv M P bl b6 b8 k p m ts n w j kv left l wr) (hn : n < 1 + (ts.map cnt2).sum) (hb : c.b0 ≤ bl) (hB : c.B ≠ bl) (hlw : w.heap[bl]? ≠ none) (hsv : SV (fun g => g = bl) c N A ns ρ sv nv M P w) {cs0 : Array Value} {fr0 : Nat × Nat} (hl0 : w.heap[bl]? = some (.cells cs0 3 fr0)) (h68 : b6 ≠ bl ∧ b8 ≠ bl) (hN : bl < b8 + 1) :
    LT c N A ns ρ sv nv M P bl b6 b8 k p m ts n w j kv (-1) l (wr.setCell ⟨bl, 0, none⟩ (.int .i64 (-1))) := by
  have hk := h.kp.set_own hb 0 (.int .i64 (-1))
  refine ⟨hsv.kpM (h.sv.st.put rfl h.hl (fun e => hB e.symm) 0 _) hk hl0, hk, hb_set_other h.h6 _ h68.1, hb_set_other h.h8 _ h68.2, hb_set_same h.hl 0 _, ⟨own_kept h.row.own fun g x hg hx => hb_set_other hx _ (fun e => ?_)⟩, h.len, .inl ⟨rfl, hn⟩⟩
  have e : g = bl := e
  have := (h.row.blk g hg).1
  omega
set_option maxRecDepth 100000 in
set_option maxHeartbeats 4000000 in
theorem told_con {c : Cfg} {N : Nat} {A : Abs} {ns : List ByteArray} {ρ : ByteArray → Option Nat} {sv nv : Value} {M P bl bs bv bt bq : Nat} {i : Nat} {X : Inf} {ts : List Tm} (hX : A.l[A.r i]? = some X) (hk1 : X.k ≠ 1) (hk5 : X.k ≠ 5) (hxp : X.p.size ≤ maxLen) (hxn : X.n.size ≤ maxLen) (hxk : X.kids.length ≤ 100000) (hlen : X.kids.length = ts.length) (hlt : ∀ y ∈ X.kids, y < A.l.length)
    (ih : ∀ (j y : Nat) (t : Tm), X.kids[j]? = some y → ts[j]? = some t → TellP c N A ns ρ sv nv M P bl bs bv bt bq y t) : TellP c N A ns ρ sv nv M P bl bs bv bt bq i (.mk X.k X.p X.n 0 ts) := by
  intro n w h hb hl hn hn2 hi
  have hsz := h.st.st.lt
  have hbw : c.b0 ≤ w.heap.size := by omega
  have hlw := hb_lt hl
  have l0 := hb_at hl 0 rfl
  have lf := hb_free hl 0
  have hk0 := (KpM.refl c bl w).set_own hb.b0 0 (.int .i64 ((n : Int) - 1))
  have hst0 := h.st.put rfl hl (fun e => hb.nB.1 e.symm) 0 (.int .i64 ((n : Int) - 1))
  have hl0 : (w.setCell ⟨bl, 0, none⟩ (.int .i64 ((n : Int) - 1))).heap[bl]? = some (.cells #[.int .i64 ((n : Int) - 1)] 3 (0, 0)) := hb_set_same hl 0 _
  have hsz0 : (w.setCell ⟨bl, 0, none⟩ (.int .i64 ((n : Int) - 1))).heap.size = w.heap.size := by simp [World.setCell]
  have hba := below_alloc (w.setCell ⟨bl, 0, none⟩ (.int .i64 ((n : Int) - 1))) (.cells #[.int .i64 0, .string ⟨#[]⟩, .string ⟨#[]⟩, .int .i64 0, .slice none 0 0] 36)
  have hk1' := hk0.trans (KpM.of_below (c := c) (M := bl) (by rw [hsz0]; exact hbw) hba)
  have hst1 := hst0.below hba
  have hl1 := hb_below hl0 hba (hb_lt hl0)
  have h61 := hb_new (w.setCell ⟨bl, 0, none⟩ (.int .i64 ((n : Int) - 1))) (.cells #[.int .i64 0, .string ⟨#[]⟩, .string ⟨#[]⟩, .int .i64 0, .slice none 0 0] 36)
  rw [hsz0] at h61
  have hb1 := hb.kept hk1'
  have h1 := h.kpM hst1 hk1' hl
  have HF := Lib.hid fun (W : World) (hW : StA (fun g => g = bl) c A W) => find_stA hW hi
  have H := Lib.hid h
  have HL := Lib.hid hl
  have HB := Lib.hid hb
  have HK1 := Lib.hid hk1'
  have HST1 := Lib.hid hst1
  have HL1 := Lib.hid hl1
  have H61 := Lib.hid h61
  have HB1 := Lib.hid hb1
  have H1 := Lib.hid h1
  have HXX := Lib.hid hX
  have HIH := Lib.hid ih
  have HLT := Lib.hid hlt
  have e1 : (X.k == 1) = false := by simpa using hk1
  have e5 : (X.k == 5) = false := by simpa using hk5
  have HLEN := Lib.hid hlen
  clear h hb hl hk1' hst1 hl1 h61 hb1 h1 hba hk0 hst0 hl0 hX ih hlt hk1 hk5 hlen
  go_enter Tryd.func78, Tryd.ntmps78
  go_upto_region 2 with (fail)
  generalize (w.setCell ⟨bl, 0, none⟩ (.int .i64 ((n : Int) - 1))).alloc (.cells #[.int .i64 0, .string ⟨#[]⟩, .string ⟨#[]⟩, .int .i64 0, .slice none 0 0] 36) = W1 at *
  have s0 := hb_at HB1.out.hs 0 rfl
  have hgen : ∀ w3, StA (fun g => g = bl) c A w3 → ∃ g cap m qk ck, w3.cell? ⟨c.B, 0, none⟩ = some (.slice (some ⟨g, 0, none⟩) m cap) ∧ A.r i < m ∧ m ≤ 100000 ∧ w3.cell? ⟨g, A.r i * 9, none⟩ = some (.int .i64 X.k) ∧ w3.cell? ⟨g, A.r i * 9 + 1, none⟩ = some (.string X.p) ∧ w3.cell? ⟨g, A.r i * 9 + 2, none⟩ = some (.string X.n) ∧ w3.cell? ⟨g, A.r i * 9 + 3, none⟩ = some (.slice qk X.kids.length ck) ∧
      (∀ (j y : Nat), X.kids[j]? = some y → ∃ gk ok cs fr, qk = some ⟨gk, ok, none⟩ ∧ w3.heap[gk]? = some (.cells cs 3 fr) ∧ gk ≠ c.B ∧ gk ≠ bl ∧ cs[ok + j]? = some (.int .i64 (y : Nat))) ∧ g < w3.heap.size := by
    rintro w3 ⟨v, L, rk, p1, p2, p3, p4⟩
    obtain ⟨x, hx, hxi⟩ := p2.back HXX.out
    obtain ⟨q, ck, hkx, hkx2⟩ := p1.kid x (List.mem_of_getElem? hx)
    have hav := p4 x (List.mem_of_getElem? hx)
    obtain ⟨g, cap, rfl, hgB, hg0, hc1, hc2, t0, t1, t2, t3, t4, x0, x1, x2, x3, x4, x5, x6, x7, x8, hfz⟩ := p1.at hx
    rw [hkx] at x3
    subst hxi
    refine ⟨g, cap, L.length, q, ck, t0, (List.getElem?_eq_some_iff.1 hx).1, p1.few, x0, x1, x2, x3, fun j y hy => ?_, block_lt_of_cell x0⟩
    have hne : x.i.kids ≠ [] := by intro e; rw [e] at hy; simp at hy
    rcases hkx2 with hkx2 | ⟨gk, ok, cs, fr, rfl, hg, hB, hc⟩
    · exact absurd hkx2 hne
    · exact ⟨gk, ok, cs, fr, rfl, hg, hB, fun e => hav hne gk ok _ _ hkx e, hc j y hy⟩
  have HGEN := Lib.hid hgen
  clear hgen
  go_upto_region 9 with (go_at_call 55; (with_reducible refine (HF.out _ HST1.out).mono ?_); rintro e w3 ⟨rfl, h3, k3⟩; have HST3 := Lib.hid h3; have HK3 := Lib.hid (HK1.out.trans k3.m); have H3 := Lib.hid (H1.out.kpM h3 k3.m HL1.out); have HB3 := Lib.hid (HB1.out.kept k3.m); have hb1' := HB1.out.nB; have HL3 := Lib.hid (k3.block _ _ HL1.out (fun e => hb1'.1 e.symm) (fun cs fr e => by injection e with _ e _; exact absurd e (by decide))); have h63 := k3.block _ _ H61.out (by omega) (fun cs fr e => by injection e with _ e _; exact absurd e (by decide)); have H63 := Lib.hid h63; obtain ⟨g, cap, m, qk, ck, n0, nlt, nle, n1, n2, n3, n4, nk, nsz⟩ := HGEN.out _ h3; have nlt2 : ((A.r i : Nat) : Int) < (m : Int) := (by omega); have s3 := hb_at HB3.out.hs 0 rfl; have NK := Lib.hid nk; clear h3 k3 h63 hb1' nk)
  refine wp_region_held_drew (S := (fun w' => w'.cell? ⟨c.B, 0, none⟩ = some (.slice (some ⟨g, 0, none⟩) m cap) ∧ w'.cell? ⟨g, A.r i * 9, none⟩ = some (.int .i64 X.k) ∧ w'.cell? ⟨g, A.r i * 9 + 1, none⟩ = some (.string X.p) ∧ w'.cell? ⟨g, A.r i * 9 + 2, none⟩ = some (.string X.n))) (by kernel_rfl) (by exact ⟨n0, n1, n2, n3⟩) (fun hHeld => ?_)
  refine wpAnyH_take (i := 0) (oi := ⟨some 37, _, _, _, _, _⟩) (v := ?_) rfl (by kernel_rfl) (by kernel_rfl) (by kernel_rfl) (fun _ _ _ h => h) (Or.inl ⟨by rfl, ?_⟩) (by assumption) ?_
  rotate_left
  focus (intro w hSw; (try dsimp only at hSw); go_simp; first | done | with_reducible rfl)
  try simp only [Act.put, List.setIfInBounds_toArray, List.set_cons_zero, List.set_cons_succ]
  refine wpAnyH_take (i := 1) (oi := ⟨some 38, _, _, _, _, _⟩) (v := ?_) rfl (by kernel_rfl) (by kernel_rfl) (by kernel_rfl) (fun _ _ _ h => h) (Or.inl ⟨by rfl, ?_⟩) (by assumption) ?_
  rotate_left
  focus (intro w hSw; (try dsimp only at hSw); go_simp; first | done | with_reducible rfl)
  try simp only [Act.put, List.setIfInBounds_toArray, List.set_cons_zero, List.set_cons_succ]
  refine wpAnyH_take (i := 2) (oi := ⟨some 39, _, _, _, _, _⟩) (v := ?_) rfl (by kernel_rfl) (by kernel_rfl) (by kernel_rfl) (fun _ _ _ h => h) (Or.inl ⟨by rfl, ?_⟩) (by assumption) ?_
  rotate_left
  focus (intro w hSw; (try dsimp only at hSw); go_simp; first | done | with_reducible rfl)
  try simp only [Act.put, List.setIfInBounds_toArray, List.set_cons_zero, List.set_cons_succ]
  refine wpAnyH_take (i := 3) (oi := ⟨some 40, _, _, _, _, _⟩) (v := ?_) rfl (by kernel_rfl) (by kernel_rfl) (by kernel_rfl) (fun _ _ _ h => h) (Or.inl ⟨by rfl, ?_⟩) (by assumption) ?_
  rotate_left
  focus (intro w hSw; (try dsimp only at hSw); go_simp; first | done | with_reducible rfl)
  try simp only [Act.put, List.setIfInBounds_toArray, List.set_cons_zero, List.set_cons_succ]
  refine wpAnyH_take (i := 4) (oi := ⟨some 41, _, _, _, _, _⟩) (v := ?_) rfl (by kernel_rfl) (by kernel_rfl) (by kernel_rfl) (fun _ _ _ h => h) (Or.inl ⟨by rfl, ?_⟩) (by assumption) ?_
  rotate_left
  focus (intro w hSw; (try dsimp only at hSw); go_simp; first | done | with_reducible rfl)
  try simp only [Act.put, List.setIfInBounds_toArray, List.set_cons_zero, List.set_cons_succ]
  refine wpAnyH_take (i := 5) (oi := ⟨some 42, _, _, _, _, _⟩) (v := ?_) rfl (by kernel_rfl) (by kernel_rfl) (by kernel_rfl) (fun _ _ _ h => h) (Or.inl ⟨by rfl, ?_⟩) (by assumption) ?_
  rotate_left
  focus (intro w hSw; (try dsimp only at hSw); go_simp; first | done | with_reducible rfl)
  try simp only [Act.put, List.setIfInBounds_toArray, List.set_cons_zero, List.set_cons_succ]
  refine wpAnyH_take (i := 6) (oi := ⟨some 43, _, _, _, _, _⟩) (v := ?_) rfl (by kernel_rfl) (by kernel_rfl) (by kernel_rfl) (fun _ _ _ h => h) (Or.inl ⟨by rfl, ?_⟩) (by assumption) ?_
  rotate_left
  focus (intro w hSw; (try dsimp only at hSw); go_simp; first | done | with_reducible rfl)
  try simp only [Act.put, List.setIfInBounds_toArray, List.set_cons_zero, List.set_cons_succ]
  refine wpAnyH_take (i := 7) (oi := ⟨some 44, _, _, _, _, _⟩) (v := ?_) rfl (by kernel_rfl) (by kernel_rfl) (by kernel_rfl) (fun _ _ _ h => h) (Or.inl ⟨by rfl, ?_⟩) (by assumption) ?_
  rotate_left
  focus (intro w hSw; (try dsimp only at hSw); go_simp; first | done | with_reducible rfl)
  try simp only [Act.put, List.setIfInBounds_toArray, List.set_cons_zero, List.set_cons_succ]
  refine wpAnyH_take (i := 8) (oi := ⟨some 45, _, _, _, _, _⟩) (v := ?_) rfl (by kernel_rfl) (by kernel_rfl) (by kernel_rfl) (fun _ _ _ h => h) (Or.inl ⟨by rfl, ?_⟩) (by assumption) ?_
  rotate_left
  focus (intro w hSw; (try dsimp only at hSw); go_simp; first | done | with_reducible rfl)
  try simp only [Act.put, List.setIfInBounds_toArray, List.set_cons_zero, List.set_cons_succ]
  refine wpAnyH_take (i := 9) (oi := ⟨some 46, _, _, _, _, _⟩) (v := ?_) rfl (by kernel_rfl) (by kernel_rfl) (by kernel_rfl) (fun _ _ _ h => h) (Or.inl ⟨by rfl, ?_⟩) (by assumption) ?_
  rotate_left
  focus (intro w hSw; (try dsimp only at hSw); go_simp; first | done | with_reducible rfl)
  try simp only [Act.put, List.setIfInBounds_toArray, List.set_cons_zero, List.set_cons_succ]
  refine wpAnyH_take (i := 10) (oi := ⟨some 47, _, _, _, _, _⟩) (v := ?_) rfl (by kernel_rfl) (by kernel_rfl) (by kernel_rfl) (fun _ _ _ h => h) (Or.inl ⟨by rfl, ?_⟩) (by assumption) ?_
  rotate_left
  focus (intro w hSw; (try dsimp only at hSw); go_simp; first | done | with_reducible rfl)
  try simp only [Act.put, List.setIfInBounds_toArray, List.set_cons_zero, List.set_cons_succ]
  refine wpAnyH_take (i := 11) (oi := ⟨some 48, _, _, _, _, _⟩) (v := ?_) rfl (by kernel_rfl) (by kernel_rfl) (by kernel_rfl) (fun _ _ _ h => h) (Or.inl ⟨by rfl, ?_⟩) (by assumption) ?_
  rotate_left
  focus (intro w hSw; (try dsimp only at hSw); go_simp; first | done | with_reducible rfl)
  try simp only [Act.put, List.setIfInBounds_toArray, List.set_cons_zero, List.set_cons_succ]
  refine wpAnyH_take (i := 12) (oi := ⟨some 49, _, _, _, _, _⟩) (v := ?_) rfl (by kernel_rfl) (by kernel_rfl) (by kernel_rfl) (fun _ _ _ h => h) (Or.inl ⟨by rfl, ?_⟩) (by assumption) ?_
  rotate_left
  focus (intro w hSw; (try dsimp only at hSw); go_simp; first | done | with_reducible rfl)
  try simp only [Act.put, List.setIfInBounds_toArray, List.set_cons_zero, List.set_cons_succ]
  have HH9 := Lib.hid hHeld
  refine wpAnyH_ready (rs := [13]) (by kernel_rfl) (by simp) ?_
  refine AllReadyH.cons (o := ⟨some 8, _, _, _, _, _⟩) rfl (fun K hK => ?_) AllReadyH.nil
  go_simp
  refine hK.out _ _ (by exact ⟨keep_cell (below_alloc _ _) hHeld.1, keep_cell (below_alloc _ _) hHeld.2.1, keep_cell (below_alloc _ _) hHeld.2.2.1, keep_cell (below_alloc _ _) hHeld.2.2.2⟩) (fun hNew => ?_)
  clear hK K
  have hHeld := hNew
  try simp only [Act.put, List.setIfInBounds_toArray, List.set_cons_zero, List.set_cons_succ]
  refine wpAnyH_ready (rs := [14]) (by kernel_rfl) (by simp) ?_
  refine AllReadyH.cons (o := ⟨none, _, _, _, _, _⟩) rfl (fun K hK => ?_) AllReadyH.nil
  go_simp
  refine hK.out _ _ (by exact ⟨keep_cell (below_alloc _ _) HH9.out.1, keep_cell (below_alloc _ _) HH9.out.2.1, keep_cell (below_alloc _ _) HH9.out.2.2.1, keep_cell (below_alloc _ _) HH9.out.2.2.2⟩) (fun hNew => ?_)
  clear hK K
  have hHeld := hNew
  try simp only [Act.put, List.setIfInBounds_toArray, List.set_cons_zero, List.set_cons_succ]
  refine wpAnyH_done (by kernel_rfl) ?_ _
  have hbA := (below_alloc w3 (.cells #[.int .i64 X.k, .string X.p, .string X.n, .int .i64 0, .slice none 0 0] 36)).drew
  have h85 := hb_new w3 (.cells #[.int .i64 X.k, .string X.p, .string X.n, .int .i64 0, .slice none 0 0] 36)
  generalize hW5 : (w3.alloc (.cells #[.int .i64 X.k, .string X.p, .string X.n, .int .i64 0, .slice none 0 0] 36)).drew = W5 at *
  have h85 : W5.heap[w3.heap.size]? = some (.cells #[.int .i64 X.k, .string X.p, .string X.n, .int .i64 0, .slice none 0 0] 36 (0, 0)) := by rw [← hW5]; exact h85
  have hsz3 := HK3.out.size
  have hbw3 : c.b0 ≤ w3.heap.size := by omega
  have hk5 := KpM.of_below (c := c) (M := bl) hbw3 hbA
  have hnB := HB3.out.nB
  have hl3 := hb_lt HL3.out
  have hB3 := HST3.out.st.lt
  have hstart : LT c N A ns ρ sv nv M P bl w.heap.size w3.heap.size X.k X.p X.n ts n w3 0 (.slice none 0 0) ((n : Int) - 1) [] W5 := by
    refine ⟨H3.out.kpM (HST3.out.below hbA) hk5 HL3.out, hk5, hb_below H63.out hbA (hb_lt H63.out), h85, hb_below HL3.out hbA hl3, ⟨World.ownsRow_nil _ _ _ _⟩, rfl, .inr ⟨?_, ?_, Dn.nil _ _ _ _⟩⟩
    · have : cs2 0 ts = 0 := rfl
      rw [this]
      omega
    · have : cs2 0 ts = 0 := rfl
      omega
  have HSTART := Lib.hid hstart
  have m3 := keep_cell hbA n4
  have HNK := NK
  have hfin : ∀ (wr : World) (kv : Value) (left : Int) (l : List T5) (j : Nat), LT c N A ns ρ sv nv M P bl w.heap.size w3.heap.size X.k X.p X.n ts n w3 j kv left l wr → ((left = -1 ∧ n < 1 + (ts.map cnt2).sum) ∨ j = X.kids.length) →
      ToldQ c N A ns ρ sv nv M P bl (.mk X.k X.p X.n 0 ts) n w (.returned (tv X.k X.p X.n 0 kv)) (put5 wr w.heap.size (.int .i64 X.k) (.string X.p) (.string X.n) (.int .i64 0) kv) := by
    intro wr kv left l j hT hc
    obtain ⟨q, cc, rfl⟩ := hT.row.shape
    have hp := (HK3.out.trans hT.kp).put5 (n := w.heap.size) (Nat.le_refl _) hbw (.int .i64 X.k) (.string X.p) (.string X.n) (.int .i64 0) (.slice q l.length cc)
    have hst := hT.sv.st.put5 hT.h6 (by omega) (.int .i64 X.k) (.string X.p) (.string X.n) (.int .i64 0) (.slice q l.length cc)
    have hl' := put5_other hT.hl (show bl ≠ w.heap.size by omega) (.int .i64 X.k) (.string X.p) (.string X.n) (.int .i64 0) (.slice q l.length cc)
    have htot := cnt2_eq X.k 0 X.p X.n ts
    have hall : X.kids.length = j → cs2 j ts = (ts.map cnt2).sum := by
      rintro rfl
      unfold cs2
      rw [HLEN.out, List.take_length]
    refine ⟨X.k, 0, X.p, X.n, q, l.length, cc, rfl, H.out.kpM hst hp HL.out, hp, fun hcn => ?_, fun hcn => ?_⟩
    · rcases hT.ok with ⟨_, hbad⟩ | ⟨hleft, hcs, hdn⟩
      · omega
      · have hj : j = X.kids.length := by rcases hc with ⟨_, h⟩ | h; exact absurd h (by omega); exact h
        have h1 := hall hj.symm
        refine ⟨?_, fun D hD => ?_⟩
        · rw [hl', hleft]
          have : n - 1 - cs2 j ts = n - cnt2 (.mk X.k X.p X.n 0 ts) := by omega
          rw [this]
        · obtain ⟨D, rfl⟩ : ∃ m, D = m + 1 := ⟨D - 1, by omega⟩
          have htk : ts.take j = ts := by rw [hj, HLEN.out, List.take_length]
          rw [htk] at hdn
          have hks := hT.row.kids (N' := w3.heap.size + 1) hdn (Nat.le_refl _) (by omega) (by omega) (by rw [← HLEN.out]; unfold maxLen; omega) (D := D) (fun x hx => by
            have h2 : cnt2 x ≤ (ts.map cnt2).sum := mem_le_sum (List.mem_map.2 ⟨x, hx, rfl⟩)
            omega)
          have hks2 := hks.move (Y := Tx w.heap.size c bl (put5 wr w.heap.size (.int .i64 X.k) (.string X.p) (.string X.n) (.int .i64 0) (.slice q l.length cc))) (w' := put5 wr w.heap.size (.int .i64 X.k) (.string X.p) (.string X.n) (.int .i64 0) (.slice q l.length cc)) (fun b hb => by
            obtain ⟨g1, g2, g3, cs, fr, hbb⟩ := hb
            have h3 := put5_other hbb (show b ≠ w.heap.size by omega) (.int .i64 X.k) (.string X.p) (.string X.n) (.int .i64 0) (.slice q l.length cc)
            exact ⟨⟨by omega, g2, g3, cs, fr, h3⟩, h3.trans hbb.symm⟩)
          obtain ⟨q', cc', e, hml, hr⟩ := hks2
          exact ⟨q', cc', by rw [e], hxp, hxn, hml, hr⟩
    · rcases hT.ok with ⟨rfl, _⟩ | ⟨hleft, hcs, _⟩
      · exact hl'
      · rcases hc with ⟨h, _⟩ | hj
        · rw [hl', h]
        · have h1 := hall hj.symm
          omega
  have HFIN := Lib.hid hfin
  clear hfin
  clear hstart hk5 hbA h85 hW5 n0 n1 n2 n3 n4 HH9 hHeld hNew s3 s0
  go_wp2
  go_loopw [55] (fun t wr => ∃ j kv left l, t = .int .i64 (j : Nat) ∧ j ≤ X.kids.length ∧ LT c N A ns ρ sv nv M P bl w.heap.size w3.heap.size X.k X.p X.n ts n w3 j kv left l wr) (fun t _ => X.kids.length - (intOf t).toNat)
  case atStart => exact ⟨0, _, _, _, rfl, Nat.zero_le _, HSTART.out⟩
  case round =>
    obtain ⟨j, kv, left, l, rfl, hjl, hT⟩ := hrel
    obtain ⟨qv, cv, rfl⟩ := hT.row.shape
    have HLT2 := Lib.hid hT
    have c80 := hb_at hT.h8 0 rfl
    have c81 := hb_at hT.h8 1 rfl
    have c82 := hb_at hT.h8 2 rfl
    have c83 := hb_at hT.h8 3 rfl
    have c84 := hb_at hT.h8 4 rfl
    have y0 := hb_at hT.h6 0 rfl
    have y1 := hb_at hT.h6 1 rfl
    have y2 := hb_at hT.h6 2 rfl
    have y3 := hb_at hT.h6 3 rfl
    have y4 := hb_at hT.h6 4 rfl
    have f0 := hb_free hT.h6 0
    have f1 := hb_free hT.h6 1
    have f2 := hb_free hT.h6 2
    have f3 := hb_free hT.h6 3
    have f4 := hb_free hT.h6 4
    have lc := hb_at hT.hl 0 rfl
    have lf2 := hb_free hT.hl 0
    have hszr := hT.kp.size
    have h8lt := hb_lt hT.h8
    by_cases hlt : j < X.kids.length
    · have hki : (j : Int) < (X.kids.length : Int) := by omega
      obtain ⟨y, hy⟩ : ∃ y, X.kids[j]? = some y := ⟨_, List.getElem?_eq_getElem hlt⟩
      obtain ⟨t, ht⟩ : ∃ t, ts[j]? = some t := ⟨_, List.getElem?_eq_getElem (by have := HLEN.out; omega)⟩
      obtain ⟨gk, ok, kcs, kfr, rfl, hgk, hgB, hgl, hgc⟩ := HNK.out j y hy
      have ck1 := hb_at (hT.kp.kept hgk hgB hgl (by decide)) (ok + j) hgc
      have hnx := cs2_next ht
      have hle := cs2_le (j := j + 1) (ts := ts)
      have hpos := cnt2_pos t
      rcases hT.ok with ⟨rfl, hbad⟩ | ⟨hleft, hcs, hdn⟩
      · have HT2 := Lib.hid (hT.cut hbad HB3.out.b0 hnB.1 (by rw [HL3.out]; simp) H3.out HL3.out ⟨by omega, by omega⟩ (by omega))
        clear hT hgk hgc
        go_wp2
        all_goals
          exact bodyPost_ret (v := tv X.k X.p X.n 0 (.slice qv l.length cv)) (by simp [results, Tryd.results78, go_sem, y0, y1, y2, y3, y4]) rfl (HFIN.out _ _ _ _ _ HT2.out (.inl ⟨rfl, hbad⟩))
      · by_cases h0 : n - 1 - cs2 j ts = 0
        · have hbad : n < 1 + (ts.map cnt2).sum := by omega
          have HT2 := Lib.hid (hT.cut hbad HB3.out.b0 hnB.1 (by rw [HL3.out]; simp) H3.out HL3.out ⟨by omega, by omega⟩ (by omega))
          obtain rfl : left = 0 := by omega
          clear hT hgk hgc hleft h0 hcs hdn hnx hle
          go_wp2
          all_goals
            exact bodyPost_ret (v := tv X.k X.p X.n 0 (.slice qv l.length cv)) (by simp [results, Tryd.results78, go_sem, y0, y1, y2, y3, y4]) rfl (HFIN.out _ _ _ _ _ HT2.out (.inl ⟨rfl, hbad⟩))
        · obtain ⟨m', hm'⟩ : ∃ m', m' = n - 1 - cs2 j ts := ⟨_, rfl⟩
          rw [← hm'] at hleft h0
          subst hleft
          have hlpos : ¬ ((m' : Int) ≤ 0) := by omega
          have htb := HB3.out.kept hT.kp
          have hkd : KpM c bl wr wr.drew := KpM.of_below (by omega) (Below.refl _ _).drew
          have HC := Lib.hid (HIH.out j y t hy ht m' wr.drew (hT.sv.kpM (hT.sv.st.below (Below.refl _ _).drew) hkd hT.hl) (htb.kept hkd) hT.hl (by omega) (by omega) (HLT.out y (List.mem_of_getElem? hy)))
          have HTB := Lib.hid htb
          have HTBD := Lib.hid (htb.kept hkd)
          have t0 := hb_at htb.ht 0 rfl
          have HDN := Lib.hid hdn
          have HTT := Lib.hid ht
          have HNX := Lib.hid hnx
          clear hT hgk hgc htb hy ht hdn hnx y0 y1 y2 y3 y4 f0 f1 f2 f3 f4 lf2
          go_upto_region 15 with (fail)
          refine wp_region_held_drew (S := (fun w' => w'.cell? ⟨bt, 0, none⟩ = some (.func (.func 78) #[] #[.pointer (some ⟨bl, 0, none⟩), .pointer (some ⟨bs, 0, none⟩), .pointer (some ⟨bv, 0, none⟩), .pointer (some ⟨bt, 0, none⟩)]))) (by kernel_rfl) (by exact t0) (fun hHeld => ?_)
          refine wpAnyH_take (i := 0) (oi := ⟨some 61, _, _, _, _, _⟩) (v := ?_) rfl (by kernel_rfl) (by kernel_rfl) (by kernel_rfl) (fun _ _ _ h => h) (Or.inl ⟨by rfl, ?_⟩) (by assumption) ?_
          rotate_left
          focus (intro w hSw; (try dsimp only at hSw); go_simp; first | done | with_reducible rfl)
          try simp only [Act.put, List.setIfInBounds_toArray, List.set_cons_zero, List.set_cons_succ]
          refine wpAnyH_take (i := 2) (oi := ⟨some 63, _, _, _, _, _⟩) (v := ?_) rfl (by kernel_rfl) (by kernel_rfl) (by kernel_rfl) (fun _ _ _ h => h) (Or.inl ⟨by rfl, ?_⟩) (by assumption) ?_
          rotate_left
          focus (intro w hSw; (try dsimp only at hSw); go_simp; first | done | with_reducible rfl)
          try simp only [Act.put, List.setIfInBounds_toArray, List.set_cons_zero, List.set_cons_succ]
          refine wpAnyH_take (i := 3) (oi := ⟨some 64, _, _, _, _, _⟩) (v := ?_) rfl (by kernel_rfl) (by kernel_rfl) (by kernel_rfl) (fun _ _ _ h => h) (Or.inl ⟨by rfl, ?_⟩) (by assumption) ?_
          rotate_left
          focus (intro w hSw; (try dsimp only at hSw); go_simp; first | done | with_reducible rfl)
          try simp only [Act.put, List.setIfInBounds_toArray, List.set_cons_zero, List.set_cons_succ]
          refine wpAnyH_ready (rs := [1, 4]) (by kernel_rfl) (by simp) ?_
          refine AllReadyH.cons (o := ⟨some 62, _, _, _, _, _⟩) rfl (fun K hK => ?_) (AllReadyH.cons (o := ⟨some 65, _, _, _, _, _⟩) rfl (fun K hK => ?_) AllReadyH.nil)
          · go_simp
            refine hK.out _ _ (by exact hHeld) (fun hNew => ?_)
            clear hK K
            clear hHeld; have hHeld := hNew; clear hNew
            try simp only [Act.put, List.setIfInBounds_toArray, List.set_cons_zero, List.set_cons_succ]
            refine wpAnyH_ready (rs := [4]) (by kernel_rfl) (by simp) ?_
            refine AllReadyH.cons (o := ⟨some 65, _, _, _, _, _⟩) rfl (fun K hK => ?_) AllReadyH.nil
            go_simp
            (with_reducible refine HC.out.mono ?_); rintro e w4 ⟨k4, I4, p4, m4, q4, l4, c4, rfl, hs4, hk4, hy4, hn4⟩; have h84 := hk4.kept (w := wr.drew) HLT2.out.h8 (by omega) (by omega) (by decide); have c84 := hb_at h84 4 rfl; have t4 := hb_at (HTBD.out.kept hk4).ht 0 rfl; have h84s := hb_lt h84; have H84 := Lib.hid h84; have HS4 := Lib.hid hs4; have HK4 := Lib.hid hk4; have HY4 := Lib.hid hy4; have HN4 := Lib.hid hn4; clear hs4 hk4 hy4 hn4 h84
            go_wp2_with fail
            refine hK.out _ _ (by exact t4) (fun hNew => ?_)
            clear hK K
            clear hHeld; have hHeld := hNew; clear hNew
            try simp only [Act.put, List.setIfInBounds_toArray, List.set_cons_zero, List.set_cons_succ]
            refine wpAnyH_ready (rs := [5]) (by kernel_rfl) (by simp) ?_
            refine AllReadyH.cons (o := ⟨some 66, _, _, _, _, _⟩) rfl (fun K hK => ?_) AllReadyH.nil
            obtain ⟨kv5, w5, hrun, hrow5, hg5, hdn5⟩ := RowT.next (c := c) (M := bl) (W := wr.drew) (w1 := w4) (k := k4) (p := p4) (n := m4) (I := I4) (q := q4) (ln := l4) (cc := c4) (HLT2.out.row.kpM (KpM.of_below (by omega) (Below.refl _ _).drew) (by omega) (by omega)) HK4.out (by omega) (by omega) (by show _ ≤ wr.heap.size; omega) (by have := HLT2.out.len; omega)
            obtain ⟨tn, htn⟩ : ∃ tn : T5, tn = (k4, p4, m4, I4, Value.slice q4 l4 c4) := ⟨_, rfl⟩
            rw [← htn] at hrow5 hdn5
            obtain ⟨q5, c5, e5⟩ := hrow5.shape
            have e5' : kv5 = Value.slice q5 (l.length + 1) c5 := by rw [e5, List.length_append]; rfl
            clear e5
            subst e5'
            have HTN := Lib.hid htn
            clear htn
            have HRUN := Lib.hid hrun
            have HROW5 := Lib.hid hrow5
            have HG5 := Lib.hid hg5
            have HDN5 := Lib.hid hdn5
            clear hrun hrow5 hg5 hdn5
            go_simp
            refine hK.out _ _ (by exact keep_cell (below_alloc _ _) hHeld) (fun hNew => ?_)
            clear hK K
            clear hHeld; have hHeld := hNew; clear hNew
            try simp only [Act.put, List.setIfInBounds_toArray, List.set_cons_zero, List.set_cons_succ]
            refine wpAnyH_ready (rs := [6]) (by kernel_rfl) (by simp) ?_
            refine AllReadyH.cons (o := ⟨some 67, _, _, _, _, _⟩) rfl (fun K hK => ?_) AllReadyH.nil
            refine step_append rfl (.tmp 62) (.tmp 66) rfl rfl rfl rfl HRUN.out ?_
            have hblk5 := HLT2.out.row.blk
            have h85 := hb_grown (hb_alloc H84.out (.cells #[.int .i64 k4, .string p4, .string m4, .int .i64 I4, .slice q4 l4 c4] 36)) HG5.out (fun e => by have := (hblk5 _ e.symm).1; omega)
            have c85 := hb_at h85 4 rfl
            have f85 := hb_free h85 4
            have tb4 := (HTBD.out.kept HK4.out).ht
            have tb5 := (hb_grown (hb_alloc tb4 (.cells #[.int .i64 k4, .string p4, .string m4, .int .i64 I4, .slice q4 l4 c4] 36)) HG5.out (fun e => by obtain ⟨_, cs, h2⟩ := hblk5 _ e.symm; exact type_ne (HTB.out.ht) h2 (by decide) rfl))
            have t5 := hb_at tb5 0 rfl
            have HTB5 := Lib.hid tb5
            clear tb5
            have H85 := Lib.hid h85
            clear h85 tb4 hblk5
            refine hK.out _ _ (by exact t5) (fun hNew => ?_)
            clear hK K
            clear hHeld; have hHeld := hNew; clear hNew
            try simp only [Act.put, List.setIfInBounds_toArray, List.set_cons_zero, List.set_cons_succ]
            refine wpAnyH_take (i := 7) (oi := ⟨some 68, _, _, _, _, _⟩) (v := ?_) rfl (by kernel_rfl) (by kernel_rfl) (by kernel_rfl) (fun _ _ _ h => h) (Or.inl ⟨by rfl, ?_⟩) (by assumption) ?_
            rotate_left
            focus (intro w hSw; (try dsimp only at hSw); go_simp; first | done | with_reducible rfl)
            try simp only [Act.put, List.setIfInBounds_toArray, List.set_cons_zero, List.set_cons_succ]
            refine wpAnyH_ready (rs := [8]) (by kernel_rfl) (by simp) ?_
            refine AllReadyH.cons (o := ⟨none, _, _, _, _, _⟩) rfl (fun K hK => ?_) AllReadyH.nil
            
            go_simp
            refine hK.out _ _ (by exact hb_at (hb_set_other HTB5.out _ (by show bt ≠ w3.heap.size; have := hb_lt HB3.out.ht; omega)) 0 rfl) (fun hNew => ?_)
            clear hK K
            clear hHeld; have hHeld := hNew; clear hNew
            try simp only [Act.put, List.setIfInBounds_toArray, List.set_cons_zero, List.set_cons_succ]
            refine wpAnyH_done (by kernel_rfl) ?_ _
            go_wp2
            have hblk5 := HLT2.out.row.blk
            have hLT2 := HLT2.out
            have hkd : KpM c bl wr wr.drew := KpM.of_below (by omega) (Below.refl _ _).drew
            have hk34 : KpM c bl w3 w4 := hLT2.kp.trans (hkd.trans HK4.out)
            have hka := hk34.trans (KpM.of_below (c := c) (M := bl) (by have := hk34.size; omega) (below_alloc w4 (.cells #[.int .i64 k4, .string p4, .string m4, .int .i64 I4, .slice q4 l4 c4] 36)))
            have hkg := hka.grown_new HG5.out (fun g hg => by have := (hblk5 g hg).1; omega) hbw3
            have hkf := hkg.set_new (n := w3.heap.size) (Nat.le_refl _) hbw3 4 (.slice q5 (l.length + 1) c5)
            have hl4 : ∃ left', w4.heap[bl]? = some (.cells #[.int .i64 left'] 3 (0, 0)) ∧ ((left' = -1 ∧ n < 1 + (ts.map cnt2).sum) ∨ (left' = ((n - 1 - cs2 (j + 1) ts : Nat) : Int) ∧ cs2 (j + 1) ts ≤ n - 1 ∧ ∀ D, cnt2 t ≤ D → IsX (Tx wr.drew.heap.size c bl w4) w4 D (tv k4 p4 m4 I4 (.slice q4 l4 c4)) t)) := by
              have hnx := HNX.out
              by_cases hfit : cnt2 t ≤ m'
              · obtain ⟨a1, a2⟩ := HY4.out hfit
                refine ⟨_, a1, .inr ⟨?_, by omega, a2⟩⟩
                have : m' - cnt2 t = n - 1 - cs2 (j + 1) ts := by omega
                rw [this]
              · exact ⟨_, HN4.out (by omega), .inl ⟨rfl, by omega⟩⟩
            obtain ⟨left', hl4, hok⟩ := hl4
            have hrow4 : ∀ g, (Value.slice qv l.length cv).ownBlock = some g → g ≠ c.B ∧ ∃ cs, (w4.alloc (.cells #[.int .i64 k4, .string p4, .string m4, .int .i64 I4, .slice q4 l4 c4] 36)).heap[g]? = some (.cells cs 36 (0, 0)) := fun g hg => by
              obtain ⟨h1, cs, h2⟩ := hblk5 g hg
              exact ⟨by omega, cs, hb_alloc (HK4.out.kept (w := wr.drew) h2 (by omega) (by omega) (by decide)) _⟩
            have hst5 := ((HS4.out.st.below (below_alloc w4 (.cells #[.int .i64 k4, .string p4, .string m4, .int .i64 I4, .slice q4 l4 c4] 36))).grown36 HG5.out hrow4).other H85.out (by decide) (by decide) (by omega) 4 (.slice q5 (l.length + 1) c5)
            have hl5 := hb_grown (hb_alloc hl4 (.cells #[.int .i64 k4, .string p4, .string m4, .int .i64 I4, .slice q4 l4 c4] 36)) HG5.out (fun e => by obtain ⟨_, cs, h2⟩ := hrow4 _ e.symm; exact type_ne (hb_alloc hl4 _) h2 (by decide) rfl)
            have h6w := hkf.kept H63.out (by omega) (by omega) (by decide)
            refine ⟨⟨j + 1, .slice q5 (l.length + 1) c5, left', l ++ [tn], by go_num, by omega, ⟨H3.out.kpM hst5 hkf HL3.out, hkf, h6w, hb_set_same H85.out 4 _, hb_set_other hl5 _ (by show bl ≠ w3.heap.size; omega), ⟨own_kept HROW5.out.own fun g x hg hx => hb_set_other hx _ (fun e => ?_)⟩, by rw [List.length_append, hLT2.len]; rfl, ?_⟩⟩, by simp [intOf]; omega⟩
            · have e : g = w3.heap.size := e
              have := (HROW5.out.blk g hg).1
              omega
            · rcases hok with h | ⟨a1, a2, a3⟩
              · exact .inl h
              · refine .inr ⟨a1, a2, ?_⟩
                have hd := HDN5.out (ts.take j) t (HDN.out.kpM hkd) a3
                have htk : ts.take (j + 1) = ts.take j ++ [t] := by rw [List.take_add_one, HTT.out]; rfl
                rw [htk]
                refine ⟨hd.1, fun a x hx => ?_⟩
                obtain ⟨tt, b1, b2⟩ := hd.2 a x hx
                refine ⟨tt, b1, fun D hD => (b2 D hD).move fun b hX hbl => ?_⟩
                obtain ⟨⟨g1, g2, g3, cs, fr, hbb⟩, g4⟩ := hX
                have e := hb_set_other hbb (.slice q5 (l.length + 1) c5) (a := ⟨w3.heap.size, 4, none⟩) (show b ≠ w3.heap.size by omega)
                exact ⟨⟨⟨g1, g2, g3, cs, fr, e⟩, g4⟩, e.trans hbb.symm⟩
          · go_simp
            (with_reducible refine HC.out.mono ?_); rintro e w4 ⟨k4, I4, p4, m4, q4, l4, c4, rfl, hs4, hk4, hy4, hn4⟩; have h84 := hk4.kept (w := wr.drew) HLT2.out.h8 (by omega) (by omega) (by decide); have c84 := hb_at h84 4 rfl; have t4 := hb_at (HTBD.out.kept hk4).ht 0 rfl; have h84s := hb_lt h84; have H84 := Lib.hid h84; have HS4 := Lib.hid hs4; have HK4 := Lib.hid hk4; have HY4 := Lib.hid hy4; have HN4 := Lib.hid hn4; clear hs4 hk4 hy4 hn4 h84
            go_wp2_with fail
            refine hK.out _ _ (by exact t4) (fun hNew => ?_)
            clear hK K
            clear hHeld; have hHeld := hNew; clear hNew
            try simp only [Act.put, List.setIfInBounds_toArray, List.set_cons_zero, List.set_cons_succ]
            refine wpAnyH_ready (rs := [1, 5]) (by kernel_rfl) (by simp) ?_
            refine AllReadyH.cons (o := ⟨some 62, _, _, _, _, _⟩) rfl (fun K hK => ?_) (AllReadyH.cons (o := ⟨some 66, _, _, _, _, _⟩) rfl (fun K hK => ?_) AllReadyH.nil)
            · go_simp
              refine hK.out _ _ (by exact hHeld) (fun hNew => ?_)
              clear hK K
              clear hHeld; have hHeld := hNew; clear hNew
              try simp only [Act.put, List.setIfInBounds_toArray, List.set_cons_zero, List.set_cons_succ]
              refine wpAnyH_ready (rs := [5]) (by kernel_rfl) (by simp) ?_
              refine AllReadyH.cons (o := ⟨some 66, _, _, _, _, _⟩) rfl (fun K hK => ?_) AllReadyH.nil
              obtain ⟨kv5, w5, hrun, hrow5, hg5, hdn5⟩ := RowT.next (c := c) (M := bl) (W := wr.drew) (w1 := w4) (k := k4) (p := p4) (n := m4) (I := I4) (q := q4) (ln := l4) (cc := c4) (HLT2.out.row.kpM (KpM.of_below (by omega) (Below.refl _ _).drew) (by omega) (by omega)) HK4.out (by omega) (by omega) (by show _ ≤ wr.heap.size; omega) (by have := HLT2.out.len; omega)
              obtain ⟨tn, htn⟩ : ∃ tn : T5, tn = (k4, p4, m4, I4, Value.slice q4 l4 c4) := ⟨_, rfl⟩
              rw [← htn] at hrow5 hdn5
              obtain ⟨q5, c5, e5⟩ := hrow5.shape
              have e5' : kv5 = Value.slice q5 (l.length + 1) c5 := by rw [e5, List.length_append]; rfl
              clear e5
              subst e5'
              have HTN := Lib.hid htn
              clear htn
              have HRUN := Lib.hid hrun
              have HROW5 := Lib.hid hrow5
              have HG5 := Lib.hid hg5
              have HDN5 := Lib.hid hdn5
              clear hrun hrow5 hg5 hdn5
              go_simp
              refine hK.out _ _ (by exact keep_cell (below_alloc _ _) hHeld) (fun hNew => ?_)
              clear hK K
              clear hHeld; have hHeld := hNew; clear hNew
              try simp only [Act.put, List.setIfInBounds_toArray, List.set_cons_zero, List.set_cons_succ]
              refine wpAnyH_ready (rs := [6]) (by kernel_rfl) (by simp) ?_
              refine AllReadyH.cons (o := ⟨some 67, _, _, _, _, _⟩) rfl (fun K hK => ?_) AllReadyH.nil
              refine step_append rfl (.tmp 62) (.tmp 66) rfl rfl rfl rfl HRUN.out ?_
              have hblk5 := HLT2.out.row.blk
              have h85 := hb_grown (hb_alloc H84.out (.cells #[.int .i64 k4, .string p4, .string m4, .int .i64 I4, .slice q4 l4 c4] 36)) HG5.out (fun e => by have := (hblk5 _ e.symm).1; omega)
              have c85 := hb_at h85 4 rfl
              have f85 := hb_free h85 4
              have tb4 := (HTBD.out.kept HK4.out).ht
              have tb5 := (hb_grown (hb_alloc tb4 (.cells #[.int .i64 k4, .string p4, .string m4, .int .i64 I4, .slice q4 l4 c4] 36)) HG5.out (fun e => by obtain ⟨_, cs, h2⟩ := hblk5 _ e.symm; exact type_ne (HTB.out.ht) h2 (by decide) rfl))
              have t5 := hb_at tb5 0 rfl
              have HTB5 := Lib.hid tb5
              clear tb5
              have H85 := Lib.hid h85
              clear h85 tb4 hblk5
              refine hK.out _ _ (by exact t5) (fun hNew => ?_)
              clear hK K
              clear hHeld; have hHeld := hNew; clear hNew
              try simp only [Act.put, List.setIfInBounds_toArray, List.set_cons_zero, List.set_cons_succ]
              refine wpAnyH_take (i := 7) (oi := ⟨some 68, _, _, _, _, _⟩) (v := ?_) rfl (by kernel_rfl) (by kernel_rfl) (by kernel_rfl) (fun _ _ _ h => h) (Or.inl ⟨by rfl, ?_⟩) (by assumption) ?_
              rotate_left
              focus (intro w hSw; (try dsimp only at hSw); go_simp; first | done | with_reducible rfl)
              try simp only [Act.put, List.setIfInBounds_toArray, List.set_cons_zero, List.set_cons_succ]
              refine wpAnyH_ready (rs := [8]) (by kernel_rfl) (by simp) ?_
              refine AllReadyH.cons (o := ⟨none, _, _, _, _, _⟩) rfl (fun K hK => ?_) AllReadyH.nil
              
              go_simp
              refine hK.out _ _ (by exact hb_at (hb_set_other HTB5.out _ (by show bt ≠ w3.heap.size; have := hb_lt HB3.out.ht; omega)) 0 rfl) (fun hNew => ?_)
              clear hK K
              clear hHeld; have hHeld := hNew; clear hNew
              try simp only [Act.put, List.setIfInBounds_toArray, List.set_cons_zero, List.set_cons_succ]
              refine wpAnyH_done (by kernel_rfl) ?_ _
              go_wp2
              have hblk5 := HLT2.out.row.blk
              have hLT2 := HLT2.out
              have hkd : KpM c bl wr wr.drew := KpM.of_below (by omega) (Below.refl _ _).drew
              have hk34 : KpM c bl w3 w4 := hLT2.kp.trans (hkd.trans HK4.out)
              have hka := hk34.trans (KpM.of_below (c := c) (M := bl) (by have := hk34.size; omega) (below_alloc w4 (.cells #[.int .i64 k4, .string p4, .string m4, .int .i64 I4, .slice q4 l4 c4] 36)))
              have hkg := hka.grown_new HG5.out (fun g hg => by have := (hblk5 g hg).1; omega) hbw3
              have hkf := hkg.set_new (n := w3.heap.size) (Nat.le_refl _) hbw3 4 (.slice q5 (l.length + 1) c5)
              have hl4 : ∃ left', w4.heap[bl]? = some (.cells #[.int .i64 left'] 3 (0, 0)) ∧ ((left' = -1 ∧ n < 1 + (ts.map cnt2).sum) ∨ (left' = ((n - 1 - cs2 (j + 1) ts : Nat) : Int) ∧ cs2 (j + 1) ts ≤ n - 1 ∧ ∀ D, cnt2 t ≤ D → IsX (Tx wr.drew.heap.size c bl w4) w4 D (tv k4 p4 m4 I4 (.slice q4 l4 c4)) t)) := by
                have hnx := HNX.out
                by_cases hfit : cnt2 t ≤ m'
                · obtain ⟨a1, a2⟩ := HY4.out hfit
                  refine ⟨_, a1, .inr ⟨?_, by omega, a2⟩⟩
                  have : m' - cnt2 t = n - 1 - cs2 (j + 1) ts := by omega
                  rw [this]
                · exact ⟨_, HN4.out (by omega), .inl ⟨rfl, by omega⟩⟩
              obtain ⟨left', hl4, hok⟩ := hl4
              have hrow4 : ∀ g, (Value.slice qv l.length cv).ownBlock = some g → g ≠ c.B ∧ ∃ cs, (w4.alloc (.cells #[.int .i64 k4, .string p4, .string m4, .int .i64 I4, .slice q4 l4 c4] 36)).heap[g]? = some (.cells cs 36 (0, 0)) := fun g hg => by
                obtain ⟨h1, cs, h2⟩ := hblk5 g hg
                exact ⟨by omega, cs, hb_alloc (HK4.out.kept (w := wr.drew) h2 (by omega) (by omega) (by decide)) _⟩
              have hst5 := ((HS4.out.st.below (below_alloc w4 (.cells #[.int .i64 k4, .string p4, .string m4, .int .i64 I4, .slice q4 l4 c4] 36))).grown36 HG5.out hrow4).other H85.out (by decide) (by decide) (by omega) 4 (.slice q5 (l.length + 1) c5)
              have hl5 := hb_grown (hb_alloc hl4 (.cells #[.int .i64 k4, .string p4, .string m4, .int .i64 I4, .slice q4 l4 c4] 36)) HG5.out (fun e => by obtain ⟨_, cs, h2⟩ := hrow4 _ e.symm; exact type_ne (hb_alloc hl4 _) h2 (by decide) rfl)
              have h6w := hkf.kept H63.out (by omega) (by omega) (by decide)
              refine ⟨⟨j + 1, .slice q5 (l.length + 1) c5, left', l ++ [tn], by go_num, by omega, ⟨H3.out.kpM hst5 hkf HL3.out, hkf, h6w, hb_set_same H85.out 4 _, hb_set_other hl5 _ (by show bl ≠ w3.heap.size; omega), ⟨own_kept HROW5.out.own fun g x hg hx => hb_set_other hx _ (fun e => ?_)⟩, by rw [List.length_append, hLT2.len]; rfl, ?_⟩⟩, by simp [intOf]; omega⟩
              · have e : g = w3.heap.size := e
                have := (HROW5.out.blk g hg).1
                omega
              · rcases hok with h | ⟨a1, a2, a3⟩
                · exact .inl h
                · refine .inr ⟨a1, a2, ?_⟩
                  have hd := HDN5.out (ts.take j) t (HDN.out.kpM hkd) a3
                  have htk : ts.take (j + 1) = ts.take j ++ [t] := by rw [List.take_add_one, HTT.out]; rfl
                  rw [htk]
                  refine ⟨hd.1, fun a x hx => ?_⟩
                  obtain ⟨tt, b1, b2⟩ := hd.2 a x hx
                  refine ⟨tt, b1, fun D hD => (b2 D hD).move fun b hX hbl => ?_⟩
                  obtain ⟨⟨g1, g2, g3, cs, fr, hbb⟩, g4⟩ := hX
                  have e := hb_set_other hbb (.slice q5 (l.length + 1) c5) (a := ⟨w3.heap.size, 4, none⟩) (show b ≠ w3.heap.size by omega)
                  exact ⟨⟨⟨g1, g2, g3, cs, fr, e⟩, g4⟩, e.trans hbb.symm⟩
            · obtain ⟨kv5, w5, hrun, hrow5, hg5, hdn5⟩ := RowT.next (c := c) (M := bl) (W := wr.drew) (w1 := w4) (k := k4) (p := p4) (n := m4) (I := I4) (q := q4) (ln := l4) (cc := c4) (HLT2.out.row.kpM (KpM.of_below (by omega) (Below.refl _ _).drew) (by omega) (by omega)) HK4.out (by omega) (by omega) (by show _ ≤ wr.heap.size; omega) (by have := HLT2.out.len; omega)
              obtain ⟨tn, htn⟩ : ∃ tn : T5, tn = (k4, p4, m4, I4, Value.slice q4 l4 c4) := ⟨_, rfl⟩
              rw [← htn] at hrow5 hdn5
              obtain ⟨q5, c5, e5⟩ := hrow5.shape
              have e5' : kv5 = Value.slice q5 (l.length + 1) c5 := by rw [e5, List.length_append]; rfl
              clear e5
              subst e5'
              have HTN := Lib.hid htn
              clear htn
              have HRUN := Lib.hid hrun
              have HROW5 := Lib.hid hrow5
              have HG5 := Lib.hid hg5
              have HDN5 := Lib.hid hdn5
              clear hrun hrow5 hg5 hdn5
              go_simp
              refine hK.out _ _ (by exact keep_cell (below_alloc _ _) hHeld) (fun hNew => ?_)
              clear hK K
              clear hHeld; have hHeld := hNew; clear hNew
              try simp only [Act.put, List.setIfInBounds_toArray, List.set_cons_zero, List.set_cons_succ]
              refine wpAnyH_ready (rs := [1]) (by kernel_rfl) (by simp) ?_
              refine AllReadyH.cons (o := ⟨some 62, _, _, _, _, _⟩) rfl (fun K hK => ?_) AllReadyH.nil
              go_simp
              refine hK.out _ _ (by exact hHeld) (fun hNew => ?_)
              clear hK K
              clear hHeld; have hHeld := hNew; clear hNew
              try simp only [Act.put, List.setIfInBounds_toArray, List.set_cons_zero, List.set_cons_succ]
              refine wpAnyH_ready (rs := [6]) (by kernel_rfl) (by simp) ?_
              refine AllReadyH.cons (o := ⟨some 67, _, _, _, _, _⟩) rfl (fun K hK => ?_) AllReadyH.nil
              refine step_append rfl (.tmp 62) (.tmp 66) rfl rfl rfl rfl HRUN.out ?_
              have hblk5 := HLT2.out.row.blk
              have h85 := hb_grown (hb_alloc H84.out (.cells #[.int .i64 k4, .string p4, .string m4, .int .i64 I4, .slice q4 l4 c4] 36)) HG5.out (fun e => by have := (hblk5 _ e.symm).1; omega)
              have c85 := hb_at h85 4 rfl
              have f85 := hb_free h85 4
              have tb4 := (HTBD.out.kept HK4.out).ht
              have tb5 := (hb_grown (hb_alloc tb4 (.cells #[.int .i64 k4, .string p4, .string m4, .int .i64 I4, .slice q4 l4 c4] 36)) HG5.out (fun e => by obtain ⟨_, cs, h2⟩ := hblk5 _ e.symm; exact type_ne (HTB.out.ht) h2 (by decide) rfl))
              have t5 := hb_at tb5 0 rfl
              have HTB5 := Lib.hid tb5
              clear tb5
              have H85 := Lib.hid h85
              clear h85 tb4 hblk5
              refine hK.out _ _ (by exact t5) (fun hNew => ?_)
              clear hK K
              clear hHeld; have hHeld := hNew; clear hNew
              try simp only [Act.put, List.setIfInBounds_toArray, List.set_cons_zero, List.set_cons_succ]
              refine wpAnyH_take (i := 7) (oi := ⟨some 68, _, _, _, _, _⟩) (v := ?_) rfl (by kernel_rfl) (by kernel_rfl) (by kernel_rfl) (fun _ _ _ h => h) (Or.inl ⟨by rfl, ?_⟩) (by assumption) ?_
              rotate_left
              focus (intro w hSw; (try dsimp only at hSw); go_simp; first | done | with_reducible rfl)
              try simp only [Act.put, List.setIfInBounds_toArray, List.set_cons_zero, List.set_cons_succ]
              refine wpAnyH_ready (rs := [8]) (by kernel_rfl) (by simp) ?_
              refine AllReadyH.cons (o := ⟨none, _, _, _, _, _⟩) rfl (fun K hK => ?_) AllReadyH.nil
              
              go_simp
              refine hK.out _ _ (by exact hb_at (hb_set_other HTB5.out _ (by show bt ≠ w3.heap.size; have := hb_lt HB3.out.ht; omega)) 0 rfl) (fun hNew => ?_)
              clear hK K
              clear hHeld; have hHeld := hNew; clear hNew
              try simp only [Act.put, List.setIfInBounds_toArray, List.set_cons_zero, List.set_cons_succ]
              refine wpAnyH_done (by kernel_rfl) ?_ _
              go_wp2
              have hblk5 := HLT2.out.row.blk
              have hLT2 := HLT2.out
              have hkd : KpM c bl wr wr.drew := KpM.of_below (by omega) (Below.refl _ _).drew
              have hk34 : KpM c bl w3 w4 := hLT2.kp.trans (hkd.trans HK4.out)
              have hka := hk34.trans (KpM.of_below (c := c) (M := bl) (by have := hk34.size; omega) (below_alloc w4 (.cells #[.int .i64 k4, .string p4, .string m4, .int .i64 I4, .slice q4 l4 c4] 36)))
              have hkg := hka.grown_new HG5.out (fun g hg => by have := (hblk5 g hg).1; omega) hbw3
              have hkf := hkg.set_new (n := w3.heap.size) (Nat.le_refl _) hbw3 4 (.slice q5 (l.length + 1) c5)
              have hl4 : ∃ left', w4.heap[bl]? = some (.cells #[.int .i64 left'] 3 (0, 0)) ∧ ((left' = -1 ∧ n < 1 + (ts.map cnt2).sum) ∨ (left' = ((n - 1 - cs2 (j + 1) ts : Nat) : Int) ∧ cs2 (j + 1) ts ≤ n - 1 ∧ ∀ D, cnt2 t ≤ D → IsX (Tx wr.drew.heap.size c bl w4) w4 D (tv k4 p4 m4 I4 (.slice q4 l4 c4)) t)) := by
                have hnx := HNX.out
                by_cases hfit : cnt2 t ≤ m'
                · obtain ⟨a1, a2⟩ := HY4.out hfit
                  refine ⟨_, a1, .inr ⟨?_, by omega, a2⟩⟩
                  have : m' - cnt2 t = n - 1 - cs2 (j + 1) ts := by omega
                  rw [this]
                · exact ⟨_, HN4.out (by omega), .inl ⟨rfl, by omega⟩⟩
              obtain ⟨left', hl4, hok⟩ := hl4
              have hrow4 : ∀ g, (Value.slice qv l.length cv).ownBlock = some g → g ≠ c.B ∧ ∃ cs, (w4.alloc (.cells #[.int .i64 k4, .string p4, .string m4, .int .i64 I4, .slice q4 l4 c4] 36)).heap[g]? = some (.cells cs 36 (0, 0)) := fun g hg => by
                obtain ⟨h1, cs, h2⟩ := hblk5 g hg
                exact ⟨by omega, cs, hb_alloc (HK4.out.kept (w := wr.drew) h2 (by omega) (by omega) (by decide)) _⟩
              have hst5 := ((HS4.out.st.below (below_alloc w4 (.cells #[.int .i64 k4, .string p4, .string m4, .int .i64 I4, .slice q4 l4 c4] 36))).grown36 HG5.out hrow4).other H85.out (by decide) (by decide) (by omega) 4 (.slice q5 (l.length + 1) c5)
              have hl5 := hb_grown (hb_alloc hl4 (.cells #[.int .i64 k4, .string p4, .string m4, .int .i64 I4, .slice q4 l4 c4] 36)) HG5.out (fun e => by obtain ⟨_, cs, h2⟩ := hrow4 _ e.symm; exact type_ne (hb_alloc hl4 _) h2 (by decide) rfl)
              have h6w := hkf.kept H63.out (by omega) (by omega) (by decide)
              refine ⟨⟨j + 1, .slice q5 (l.length + 1) c5, left', l ++ [tn], by go_num, by omega, ⟨H3.out.kpM hst5 hkf HL3.out, hkf, h6w, hb_set_same H85.out 4 _, hb_set_other hl5 _ (by show bl ≠ w3.heap.size; omega), ⟨own_kept HROW5.out.own fun g x hg hx => hb_set_other hx _ (fun e => ?_)⟩, by rw [List.length_append, hLT2.len]; rfl, ?_⟩⟩, by simp [intOf]; omega⟩
              · have e : g = w3.heap.size := e
                have := (HROW5.out.blk g hg).1
                omega
              · rcases hok with h | ⟨a1, a2, a3⟩
                · exact .inl h
                · refine .inr ⟨a1, a2, ?_⟩
                  have hd := HDN5.out (ts.take j) t (HDN.out.kpM hkd) a3
                  have htk : ts.take (j + 1) = ts.take j ++ [t] := by rw [List.take_add_one, HTT.out]; rfl
                  rw [htk]
                  refine ⟨hd.1, fun a x hx => ?_⟩
                  obtain ⟨tt, b1, b2⟩ := hd.2 a x hx
                  refine ⟨tt, b1, fun D hD => (b2 D hD).move fun b hX hbl => ?_⟩
                  obtain ⟨⟨g1, g2, g3, cs, fr, hbb⟩, g4⟩ := hX
                  have e := hb_set_other hbb (.slice q5 (l.length + 1) c5) (a := ⟨w3.heap.size, 4, none⟩) (show b ≠ w3.heap.size by omega)
                  exact ⟨⟨⟨g1, g2, g3, cs, fr, e⟩, g4⟩, e.trans hbb.symm⟩
    · have hki : ¬ (j : Int) < (X.kids.length : Int) := by omega
      obtain rfl : j = X.kids.length := by omega
      clear hT
      go_wp2
      all_goals
        exact bodyPost_ret (v := tv X.k X.p X.n 0 (.slice qv l.length cv)) (by simp [results, Tryd.results78, go_sem, y0, y1, y2, y3, y4]) rfl (HFIN.out _ _ _ _ _ HLT2.out (.inr rfl))
end Go.Proofs.YtncebhddcokkoaaDoor
/- Any type is told; tell, told. -/
namespace Go.Proofs.YtncebhddcokkoaaDoor
open Go.RowKit Go.Maps
set_option linter.unusedSimpArgs false
set_option linter.unusedVariables false
/-- Names for a store's variables; nothing in it is too long. -/
structure Nms (A : Abs) (ρ : ByteArray → Option Nat) (f : Nat → Tm) : Prop where
  ok : A.Ok
  norig : A.NoRig
  nm : ∀ (z : Nat) (x : Inf), A.l[z]? = some x → x.k = 1 → A.r z = z → ∃ n, ρ n = some z ∧ f z = vN n ∧ n.size ≤ maxLen
  sm : ∀ x ∈ A.l, x.p.size ≤ maxLen ∧ x.n.size ≤ maxLen ∧ x.kids.length ≤ 100000
theorem told_any {c : Cfg} {N : Nat} {A : Abs} {ns : List ByteArray} {ρ : ByteArray → Option Nat} {sv nv : Value} {M P bl bs bv bt bq : Nat} {f : Nat → Tm} (hN : Nms A ρ f) {i : Nat} {t : Tm} (h : Abs.Unf A f i t) : TellP c N A ns ρ sv nv M P bl bs bv bt bq i t := by
  induction h with
  | @leaf i x h hk =>
    have hk1 : x.k = 1 := hk.resolve_right (hN.norig _ x h)
    obtain ⟨n, e1, e2, e3⟩ := hN.nm _ x h hk1 (hN.ok.idem i)
    rw [e2]
    intro m w h1 h2 h3 h4 h5 h6
    exact told_var h1 h2 h3 h4 h5 h6 h hk1 e1 e3
  | @node i x ts h h1 h5 hl hk ih =>
    obtain ⟨e1, e2, e3⟩ := hN.sm x (List.mem_of_getElem? h)
    exact told_con h h1 h5 e1 e2 e3 hl (fun y hy => by have := hN.ok.kid _ x h y hy; have := (List.getElem?_eq_some_iff.1 h).1; omega) (fun j y t hy ht => ih j y t hy ht)
theorem SV.mono {X Y : Nat → Prop} {c : Cfg} {N : Nat} {A : Abs} {ns : List ByteArray} {ρ : ByteArray → Option Nat} {sv nv : Value} {M P : Nat} {w w' : World} (h : SV X c N A ns ρ sv nv M P w) (hb : Below w.heap.size w w') (hst : StA Y c A w') : SV Y c N A ns ρ sv nv M P w' := by
  obtain ⟨g, hg, hgp⟩ := h.pl
  exact ⟨hst, h.ty, h.rest, own_kept h.row (fun b y hb1 hy => hb_below hy hb (hb_lt hy)), h.vm.below hb, ⟨g, hg.below hb, hgp⟩, h.few, h.dom⟩
theorem five (w : World) (o1 o2 o3 o4 o5 : Obj) : ∃ W : World, W = ((((w.alloc o1).alloc o2).alloc o3).alloc o4).alloc o5 ∧ Below w.heap.size w W ∧ W.heap.size = w.heap.size + 5 ∧ W.heap[w.heap.size]? = some o1 ∧ W.heap[w.heap.size + 1]? = some o2 ∧ W.heap[w.heap.size + 1 + 1]? = some o3 ∧ W.heap[w.heap.size + 1 + 1 + 1]? = some o4 ∧ W.heap[w.heap.size + 1 + 1 + 1 + 1]? = some o5 := by
  refine ⟨_, rfl, ?_, by simp, hb_alloc (hb_alloc (hb_alloc (hb_alloc (hb_new _ _) _) _) _) _, ?_, ?_, ?_, ?_⟩
  · exact ((((below_alloc w o1).alloc (below_alloc w _).size o2).alloc (by simp; omega) o3).alloc (by simp; omega) o4).alloc (by simp; omega) o5
  · simpa using hb_alloc (hb_alloc (hb_alloc (hb_new (w.alloc o1) o2) o3) o4) o5
  · simpa using hb_alloc (hb_alloc (hb_new ((w.alloc o1).alloc o2) o3) o4) o5
  · simpa using hb_alloc (hb_new (((w.alloc o1).alloc o2).alloc o3) o4) o5
  · simpa using hb_new ((((w.alloc o1).alloc o2).alloc o3).alloc o4) o5
theorem SV.put5 {X : Nat → Prop} {c : Cfg} {N : Nat} {A : Abs} {ns : List ByteArray} {ρ : ByteArray → Option Nat} {sv nv : Value} {M P : Nat} {w : World} (h : SV X c N A ns ρ sv nv M P w) {n : Nat} {cs : Array Value} {fr : Nat × Nat} (hc : w.heap[n]? = some (.cells cs 36 fr)) (hB : n ≠ c.B) (v0 v1 v2 v3 v4 : Value) : SV X c N A ns ρ sv nv M P (put5 w n v0 v1 v2 v3 v4) := by
  have hmap : ∀ (m : Nat) es cl, w.heap[m]? = some (.map es cl) → (Go.Proofs.YtncebhddcokkoaaDoor.put5 w n v0 v1 v2 v3 v4).heap[m]? = w.heap[m]? := fun m es cl hm => by
    rw [hm]
    exact put5_other hm (fun e => by rw [e, hc] at hm; cases hm) v0 v1 v2 v3 v4
  obtain ⟨es, cl, hm⟩ := h.vm.heap
  obtain ⟨g, hg, hgp⟩ := h.pl
  obtain ⟨es', cl', hm'⟩ := hg.heap
  refine ⟨h.st.put5 hc hB v0 v1 v2 v3 v4, h.ty, h.rest, own_kept h.row (fun b y hb hy => ?_), h.vm.same (hmap _ _ _ hm), ⟨g, hg.same (hmap _ _ _ hm'), hgp⟩, h.few, h.dom⟩
  have hb2 : ∃ cs', w.heap[b]? = some (.cells cs' 9 (0, 0)) := by
    rcases h.row.2 with ⟨rfl, _⟩ | ⟨g', cap, cur, rfl, _, h4, _⟩
    · cases hb
    · injection hb with hb
      subst hb
      exact ⟨_, h4⟩
  obtain ⟨cs', hb2⟩ := hb2
  exact put5_other hy (fun e => type_ne hb2 hc (by decide) e) v0 v1 v2 v3 v4
theorem KpM.kp {c : Cfg} {M : Nat} {w w' : World} (h : KpM c M w w') (hM : w.heap.size ≤ M) : Kp c w w' := ⟨h.below, h.size, fun g x h1 h2 h3 => h.block g x h1 h2 (by have := hb_lt h1; omega) h3⟩
/-- What tell answers. -/
def TellQ (c : Cfg) (N : Nat) (A : Abs) (ns : List ByteArray) (ρ : ByteArray → Option Nat) (sv nv : Value) (M P : Nat) (t : Tm) (w : World) (e : Ending) (w' : World) : Prop :=
  ∃ (k I : Int) (p m : ByteArray) (q : Option Addr) (l cc : Nat), e = .returned (.tuple #[tv k p m I (.slice q l cc), .bool (decide (cnt2 t ≤ 1000))]) ∧ SV (fun _ => False) c N A ns ρ sv nv M P w' ∧ Kp c w w' ∧
    (cnt2 t ≤ 1000 → ∀ D, cnt2 t ≤ D → IsX (fun b => w.heap.size ≤ b ∧ b ≠ c.B ∧ ∃ cs fr, w'.heap[b]? = some (.cells cs 36 fr)) w' D (tv k p m I (.slice q l cc)) t)
set_option maxRecDepth 100000 in
set_option maxHeartbeats 2000000 in
theorem tell_any {c : Cfg} {N : Nat} {A : Abs} {ns : List ByteArray} {ρ : ByteArray → Option Nat} {sv nv : Value} {M P bq : Nat} {f : Nat → Tm} (hN : Nms A ρ f) {i : Nat} {t : Tm} {w : World} (hu : Abs.Unf A f i t) (h : SV (fun _ => False) c N A ns ρ sv nv M P w) (hq : w.heap[bq]? = some (.cells #[.pointer (some ⟨c.B, 0, none⟩)] 68 (0, 0))) (hqB : c.B ≠ bq) (hi : i < A.l.length) :
    Calls Tryd.prog 58 #[.pointer (some ⟨c.B, 0, none⟩), .int .i64 (i : Nat), .func (.func 72) #[] #[.pointer (some ⟨bq, 0, none⟩)]] w (TellQ c N A ns ρ sv nv M P t w) := by
  obtain ⟨W5, hW5, hb5, hsz5, k1, k2, k3, k4, k5⟩ := five w (.cells #[.pointer (some ⟨c.B, 0, none⟩)] 51) (.cells #[.func (.func 72) #[] #[.pointer (some ⟨bq, 0, none⟩)]] 98) (.cells #[.int .i64 0, .string ⟨#[]⟩, .string ⟨#[]⟩, .int .i64 0, .slice none 0 0] 36) (.cells #[.int .i64 1000] 3) (.cells #[.func (.func 78) #[] #[.pointer (some ⟨w.heap.size + 1 + 1 + 1, 0, none⟩), .pointer (some ⟨w.heap.size, 0, none⟩), .pointer (some ⟨w.heap.size + 1, 0, none⟩), .pointer (some ⟨w.heap.size + 1 + 1 + 1 + 1, 0, none⟩)]] 98)
  have hsz := h.st.st.lt
  have hbw : c.b0 ≤ w.heap.size := by omega
  have hst5 : StA (fun g => g = w.heap.size + 1 + 1 + 1) c A W5 := (h.st.add hb5 (n := w.heap.size + 1 + 1 + 1) (by omega)).weak (fun g hg => .inr hg)
  have hsv5 := h.mono hb5 hst5
  have hlq := hb_lt hq
  have htb : Tb c (w.heap.size + 1 + 1 + 1) w.heap.size (w.heap.size + 1) (w.heap.size + 1 + 1 + 1 + 1) bq W5 := ⟨k1, k2, k5, hb_below hq hb5 hlq, ⟨by omega, by omega, by omega, by omega, hqB⟩, ⟨by omega, by omega, by omega, by omega⟩, by omega⟩
  have HC := Lib.hid (told_any hN hu 1000 W5 hsv5 htb k4 (by omega) (Nat.le_refl _) hi)
  have t0 := hb_at k5 0 rfl
  have K3 := Lib.hid k3
  have K4 := Lib.hid k4
  have HB5 := Lib.hid hb5
  have HS5 := Lib.hid hsv5
  have H := Lib.hid h
  clear h hq hst5 hsv5 htb k1 k2 k3 k4 k5 hb5
  go_enter Tryd.func58, Tryd.ntmps58
  go_upto_region 4 with (fail)
  rw [show (((((w.alloc (.cells #[.pointer (some ⟨c.B, 0, none⟩)] 51)).alloc (.cells #[.func (.func 72) #[] #[.pointer (some ⟨bq, 0, none⟩)]] 98)).alloc (.cells #[.int .i64 0, .string ⟨#[]⟩, .string ⟨#[]⟩, .int .i64 0, .slice none 0 0] 36)).alloc (.cells #[.int .i64 1000] 3)).alloc (.cells #[.func (.func 78) #[] #[.pointer (some ⟨w.heap.size + 1 + 1 + 1, 0, none⟩), .pointer (some ⟨w.heap.size, 0, none⟩), .pointer (some ⟨w.heap.size + 1, 0, none⟩), .pointer (some ⟨w.heap.size + 1 + 1 + 1 + 1, 0, none⟩)]] 98)) = W5 from hW5.symm]
  clear hW5
  go_upto_region 5 with (go_at_call 78; (with_reducible refine HC.out.mono ?_); rintro e w6 ⟨k, I, p, m, q, l, cc, rfl, g1, g2, g3, g4⟩; have G1 := Lib.hid g1; have G2 := Lib.hid g2; have G3 := Lib.hid g3; have G4 := Lib.hid g4; clear g1 g2 g3 g4)
  have hba := below_alloc w6 (.cells #[.int .i64 k, .string p, .string m, .int .i64 I, .slice q l cc] 36)
  have h10 := hb_new w6 (.cells #[.int .i64 k, .string p, .string m, .int .i64 I, .slice q l cc] 36)
  have hs6 := G2.out.size
  have hk3 := G2.out.kept K3.out (by omega) (by omega) (by decide)
  have hk67 := (KpM.of_below (c := c) (M := w.heap.size + 1 + 1 + 1) hbw HB5.out).trans G2.out
  have hk7 := hk67.trans (KpM.of_below (by have := hk67.size; omega) hba)
  have h6 := hb_below hk3 hba (hb_lt hk3)
  have hsv7 := G1.out.mono hba (G1.out.st.below hba)
  have hG3 : cnt2 t ≤ 1000 → _ := fun h => hb_at (hb_below (G3.out h).1 hba (hb_lt (G3.out h).1)) 0 rfl
  have hG4 : 1000 < cnt2 t → _ := fun h => hb_at (hb_below (G4.out h) hba (hb_lt (G4.out h))) 0 rfl
  have z0 := hb_at h10 0 rfl
  have z1 := hb_at h10 1 rfl
  have z2 := hb_at h10 2 rfl
  have z3 := hb_at h10 3 rfl
  have z4 := hb_at h10 4 rfl
  have y0 := hb_at h6 0 rfl
  have y1 := hb_at h6 1 rfl
  have y2 := hb_at h6 2 rfl
  have y3 := hb_at h6 3 rfl
  have y4 := hb_at h6 4 rfl
  have f0 := hb_free h6 0
  have f1 := hb_free h6 1
  have f2 := hb_free h6 2
  have f3 := hb_free h6 3
  have f4 := hb_free h6 4
  have H6 := Lib.hid h6
  have HK7 := Lib.hid hk7
  have HSV7 := Lib.hid hsv7
  have HBA := Lib.hid hba
  generalize w6.alloc (.cells #[.int .i64 k, .string p, .string m, .int .i64 I, .slice q l cc] 36) = W7 at *
  by_cases hcn : cnt2 t ≤ 1000
  · have l0 := hG3 hcn
    have hnn : ¬ (((1000 - cnt2 t : Nat) : Int) < 0) := by omega
    have hd : decide (cnt2 t ≤ 1000) = true := by simpa using hcn
    have HD := Lib.hid hd
    have HCN := Lib.hid hcn
    clear hG3 hG4 hd hcn h10 hk3 hk67 hk7 h6 hsv7 hba
    go_wp2
    refine bodyPost_ret (v := .tuple #[tv k p m I (.slice q l cc), .bool true]) (by simp [results, Tryd.results58, go_sem, y0, y1, y2, y3, y4]) rfl ⟨k, I, p, m, q, l, cc, by rw [HD.out], ?_, (HK7.out.put5 (n := w.heap.size + 1 + 1) (by omega) hbw (.int .i64 k) (.string p) (.string m) (.int .i64 I) (.slice q l cc)).kp (by omega), fun _ D hD => ?_⟩
    · have h1 := HSV7.out.put5 H6.out (by omega) (.int .i64 k) (.string p) (.string m) (.int .i64 I) (.slice q l cc)
      exact ⟨h1.st.weak (fun g h => h.elim), h1.ty, h1.rest, h1.row, h1.vm, h1.pl, h1.few, h1.dom⟩
    · refine ((G3.out HCN.out).2 D hD).move fun b hX hbl => ?_
      obtain ⟨g1, g2, g3, cs, fr, hbb⟩ := hX
      have e := put5_other (hb_below hbb HBA.out hbl) (show b ≠ w.heap.size + 1 + 1 by omega) (.int .i64 k) (.string p) (.string m) (.int .i64 I) (.slice q l cc)
      exact ⟨⟨by omega, g2, cs, fr, e⟩, e.trans hbb.symm⟩
  · have l0 := hG4 (by omega)
    have hd : decide (cnt2 t ≤ 1000) = false := by simpa using hcn
    have HD := Lib.hid hd
    have HCN := Lib.hid hcn
    clear hG3 hG4 hd hcn h10 hk3 hk67 hk7 h6 hsv7 hba
    go_wp2
    refine bodyPost_ret (v := .tuple #[tv 0 ⟨#[]⟩ ⟨#[]⟩ 0 (.slice none 0 0), .bool false]) (by simp [results, Tryd.results58, go_sem, y0, y1, y2, y3, y4]) rfl ⟨0, 0, ⟨#[]⟩, ⟨#[]⟩, none, 0, 0, by rw [HD.out], ?_, (HK7.out.put5 (n := w.heap.size + 1 + 1) (by omega) hbw (.int .i64 0) (.string ⟨#[]⟩) (.string ⟨#[]⟩) (.int .i64 0) (.slice none 0 0)).kp (by omega), fun h => absurd h HCN.out⟩
    have h1 := HSV7.out.put5 H6.out (by omega) (.int .i64 0) (.string ⟨#[]⟩) (.string ⟨#[]⟩) (.int .i64 0) (.slice none 0 0)
    exact ⟨h1.st.weak (fun g h => h.elim), h1.ty, h1.rest, h1.row, h1.vm, h1.pl, h1.few, h1.dom⟩
end Go.Proofs.YtncebhddcokkoaaDoor
