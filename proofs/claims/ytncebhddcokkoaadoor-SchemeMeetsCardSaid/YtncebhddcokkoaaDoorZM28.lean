/- Texts in a row: Lf Lg Lh. -/
import Derived.Test.YtncebhddcokkoaaDoorZM27
import Derived.Test.YtncebhddcokkoaaDoorZM9
/- A solver: its names, and the places of its variables; a variable is told. -/
namespace Go.Proofs.YtncebhddcokkoaaDoor
open Go.RowKit Go.Maps
set_option linter.unusedSimpArgs false
set_option linter.unusedVariables false
/-- A solver whose equations are solved. -/
structure SV (X : Nat → Prop) (c : Cfg) (N : Nat) (A : Abs) (ns : List ByteArray) (ρ : ByteArray → Option Nat) (sv nv : Value) (M P : Nat) (w : World) : Prop where
  st : StA X c A w
  ty : c.T = 86
  rest : c.rest = [sv, nv, .map (some M), .map (some P)]
  row : w.ownsRow N 9 1 nv ns.length (ns.map .string)
  vm : PMap w M ns.length fun n => (ρ n).map Int.ofNat
  pl : ∃ g, IMap w P ns.length g ∧ ∀ (n : ByteArray) (z j : Nat), ρ n = some z → ns[j]? = some n → g (z : Int) = some (j : Int)
  few : ns.length ≤ 50000
  dom : ∀ n, n ∈ ns ↔ ∃ i, ρ n = some i
set_option maxRecDepth 100000 in
set_option maxHeartbeats 1000000 in
theorem told72 {X : Nat → Prop} {c : Cfg} {N : Nat} {A : Abs} {ns : List ByteArray} {ρ : ByteArray → Option Nat} {sv nv : Value} {M P : Nat} {w : World} (h : SV X c N A ns ρ sv nv M P w) {bq : Nat} (hq : w.heap[bq]? = some (.cells #[.pointer (some ⟨c.B, 0, none⟩)] 68 (0, 0))) {n : ByteArray} {z : Nat} (hn : ρ n = some z) (hzl : z ≤ 100000) :
    Calls Tryd.prog 72 #[.int .i64 (z : Nat), .pointer (some ⟨bq, 0, none⟩)] w fun e w' => e = .returned (tv 1 ⟨#[]⟩ n 0 (.slice none 0 0)) ∧ Below w.heap.size w w' := by
  have hm : n ∈ ns := (h.dom n).2 ⟨z, hn⟩
  obtain ⟨j, hj⟩ := List.getElem?_of_mem hm
  obtain ⟨g, hg, hgp⟩ := h.pl
  have hgz := hgp n z j hn hj
  have hgj : (g (z : Int)).getD 0 = (j : Int) := by rw [hgz]; rfl
  have hz : (Lit.int .i64 (z : Nat)).wf = true := WalkArith.wf_i64 (by omega)
  have hjl := (List.getElem?_eq_some_iff.1 hj).1
  obtain ⟨v, L, rk, p1, _, _, _⟩ := h.st
  have hblk := p1.blk
  rw [h.rest] at hblk
  have ha := below_alloc w (.cells #[.int .i64 0, .string ⟨#[]⟩, .string ⟨#[]⟩, .int .i64 0, .slice none 0 0] 36)
  obtain ⟨_, ⟨_, h0⟩ | ⟨gn, cn, cur, rfl, hgN, hgb, hc1, hc2, hcs, htk⟩⟩ := h.row
  · omega
  have hnj : cur[j]? = some (.string n) := by
    have e : (cur.toList.take (ns.length * 1))[j]? = (ns.map Value.string)[j]? := by rw [htk]
    rw [List.getElem?_take, if_pos (by omega), List.getElem?_map, hj, Array.getElem?_toList] at e
    exact e
  have Q0 := Lib.hid (hb_at hq 0 rfl)
  have B6 := Lib.hid (hb_at hblk 6 rfl)
  have B8 := Lib.hid (hb_at hblk 8 rfl)
  have NJ := Lib.hid (hb_at hgb j hnj)
  have HG := Lib.hid hg
  have HA := Lib.hid ha
  have hfew := h.few
  have hjn : (j : Int) < (ns.length : Int) := by omega
  clear h hq hn hm hgp hgz hg p1 hblk hgb htk ha
  go_enter Tryd.func72, Tryd.ntmps72
  go_upto_region 1 with (fail)
  refine wp_region_held_drew (S := (fun w' => RowKit.Hid (Below w.heap.size w w') ∧ w'.cell? ⟨bq, 0, none⟩ = some (.pointer (some ⟨c.B, 0, none⟩)) ∧ w'.cell? ⟨c.B, 6, none⟩ = some (.slice (some ⟨gn, 0, none⟩) ns.length cn) ∧ w'.cell? ⟨c.B, 8, none⟩ = some (.map (some P)) ∧ w'.cell? ⟨gn, j, none⟩ = some (.string n))) (by kernel_rfl) (by exact ⟨Lib.hid (below_alloc w _).drew, keep_cell HA.out.drew Q0.out, keep_cell HA.out.drew B6.out, keep_cell HA.out.drew B8.out, keep_cell HA.out.drew NJ.out⟩) (fun hHeld => ?_)
  refine wpAnyH_take (i := 0) (oi := ⟨some 4, _, _, _, _, _⟩) (v := ?_) rfl (by kernel_rfl) (by kernel_rfl) (by kernel_rfl) (fun _ _ _ h => h) (Or.inl ⟨by rfl, ?_⟩) (by assumption) ?_
  rotate_left
  focus (intro w hSw; (try dsimp only at hSw); go_simp; first | done | with_reducible rfl)
  try simp only [Act.put, List.setIfInBounds_toArray, List.set_cons_zero, List.set_cons_succ]
  refine wpAnyH_take (i := 1) (oi := ⟨some 5, _, _, _, _, _⟩) (v := ?_) rfl (by kernel_rfl) (by kernel_rfl) (by kernel_rfl) (fun _ _ _ h => h) (Or.inl ⟨by rfl, ?_⟩) (by assumption) ?_
  rotate_left
  focus (intro w hSw; (try dsimp only at hSw); go_simp; first | done | with_reducible rfl)
  try simp only [Act.put, List.setIfInBounds_toArray, List.set_cons_zero, List.set_cons_succ]
  refine wpAnyH_take (i := 2) (oi := ⟨some 6, _, _, _, _, _⟩) (v := ?_) rfl (by kernel_rfl) (by kernel_rfl) (by kernel_rfl) (fun _ _ _ h => h) (Or.inl ⟨by rfl, ?_⟩) (by assumption) ?_
  rotate_left
  focus (intro w hSw; (try dsimp only at hSw); go_simp; first | done | with_reducible rfl)
  try simp only [Act.put, List.setIfInBounds_toArray, List.set_cons_zero, List.set_cons_succ]
  refine wpAnyH_take (i := 3) (oi := ⟨some 7, _, _, _, _, _⟩) (v := ?_) rfl (by kernel_rfl) (by kernel_rfl) (by kernel_rfl) (fun _ _ _ h => h) (Or.inl ⟨by rfl, ?_⟩) (by assumption) ?_
  rotate_left
  focus (intro w hSw; (try dsimp only at hSw); go_simp; first | done | with_reducible rfl)
  try simp only [Act.put, List.setIfInBounds_toArray, List.set_cons_zero, List.set_cons_succ]
  refine wpAnyH_take (i := 4) (oi := ⟨some 8, _, _, _, _, _⟩) (v := ?_) rfl (by kernel_rfl) (by kernel_rfl) (by kernel_rfl) (fun _ _ _ h => h) (Or.inl ⟨by rfl, ?_⟩) (by assumption) ?_
  rotate_left
  focus (intro w hSw; (try dsimp only at hSw); go_simp; first | done | with_reducible rfl)
  try simp only [Act.put, List.setIfInBounds_toArray, List.set_cons_zero, List.set_cons_succ]
  refine wpAnyH_take (i := 5) (oi := ⟨some 9, _, _, _, _, _⟩) (v := ?_) rfl (by kernel_rfl) (by kernel_rfl) (by kernel_rfl) (fun _ _ _ h => h) (Or.inl ⟨by rfl, ?_⟩) (by assumption) ?_
  rotate_left
  focus (intro w hSw; (try dsimp only at hSw); go_simp; first | done | with_reducible rfl)
  try simp only [Act.put, List.setIfInBounds_toArray, List.set_cons_zero, List.set_cons_succ]
  refine wpAnyH_take (i := 6) (oi := ⟨some 10, _, _, _, _, _⟩) (v := ?_) rfl (by kernel_rfl) (by kernel_rfl) (by kernel_rfl) (fun _ _ _ h => h) (Or.inl ⟨by rfl, ?_⟩) (by assumption) ?_
  rotate_left
  focus (intro w hSw; (try dsimp only at hSw); go_simp; first | done | with_reducible rfl)
  try simp only [Act.put, List.setIfInBounds_toArray, List.set_cons_zero, List.set_cons_succ]
  refine wpAnyH_take (i := 7) (oi := ⟨some 11, _, _, _, _, _⟩) (v := ?_) rfl (by kernel_rfl) (by kernel_rfl) (by kernel_rfl) (fun _ _ _ h => h) (Or.inl ⟨by rfl, ?_⟩) (by assumption) ?_
  rotate_left
  focus (intro w hSw; (try dsimp only at hSw); go_simp; first | done | with_reducible rfl)
  try simp only [Act.put, List.setIfInBounds_toArray, List.set_cons_zero, List.set_cons_succ]
  refine wpAnyH_take (i := 8) (oi := ⟨some 12, _, _, _, _, _⟩) (v := ?_) rfl (by kernel_rfl) (by kernel_rfl) (by kernel_rfl) (fun _ _ _ h => h) (Or.inl ⟨by rfl, ?_⟩) (by assumption) ?_
  rotate_left
  focus (intro w hSw; (try dsimp only at hSw); go_simp; first | done | with_reducible rfl)
  try simp only [Act.put, List.setIfInBounds_toArray, List.set_cons_zero, List.set_cons_succ]
  refine wpAnyH_take (i := 9) (oi := ⟨some 13, _, _, _, _, _⟩) (v := ?_) rfl (by kernel_rfl) (by kernel_rfl) (by kernel_rfl) (fun _ _ _ h => h) (Or.inl ⟨by rfl, ?_⟩) (by assumption) ?_
  rotate_left
  focus (intro w hSw; (try dsimp only at hSw); have hl := (HG.out.below hSw.1.out).look (z : Int) hz; rw [hgj] at hl; go_simp; first | done | with_reducible rfl)
  try simp only [Act.put, List.setIfInBounds_toArray, List.set_cons_zero, List.set_cons_succ]
  refine wpAnyH_take (i := 10) (oi := ⟨some 14, _, _, _, _, _⟩) (v := ?_) rfl (by kernel_rfl) (by kernel_rfl) (by kernel_rfl) (fun _ _ _ h => h) (Or.inl ⟨by rfl, ?_⟩) (by assumption) ?_
  rotate_left
  focus (intro w hSw; (try dsimp only at hSw); go_simp; first | done | with_reducible rfl)
  try simp only [Act.put, List.setIfInBounds_toArray, List.set_cons_zero, List.set_cons_succ]
  refine wpAnyH_take (i := 11) (oi := ⟨some 15, _, _, _, _, _⟩) (v := ?_) rfl (by kernel_rfl) (by kernel_rfl) (by kernel_rfl) (fun _ _ _ h => h) (Or.inl ⟨by rfl, ?_⟩) (by assumption) ?_
  rotate_left
  focus (intro w hSw; (try dsimp only at hSw); go_simp; first | done | with_reducible rfl)
  try simp only [Act.put, List.setIfInBounds_toArray, List.set_cons_zero, List.set_cons_succ]
  refine wpAnyH_take (i := 12) (oi := ⟨some 16, _, _, _, _, _⟩) (v := ?_) rfl (by kernel_rfl) (by kernel_rfl) (by kernel_rfl) (fun _ _ _ h => h) (Or.inl ⟨by rfl, ?_⟩) (by assumption) ?_
  rotate_left
  focus (intro w hSw; (try dsimp only at hSw); go_simp; first | done | with_reducible rfl)
  try simp only [Act.put, List.setIfInBounds_toArray, List.set_cons_zero, List.set_cons_succ]
  refine wpAnyH_ready (rs := [13]) (by kernel_rfl) (by simp) ?_
  refine AllReadyH.cons (o := ⟨none, _, _, _, _, _⟩) rfl (fun K hK => ?_) AllReadyH.nil
  go_simp
  refine hK.out _ _ (by exact ⟨Lib.hid (below_alloc w _).drew, keep_cell (below_alloc w _).drew Q0.out, keep_cell (below_alloc w _).drew B6.out, keep_cell (below_alloc w _).drew B8.out, keep_cell (below_alloc w _).drew NJ.out⟩) (fun hNew => ?_)
  clear hK K
  have hHeld := hNew
  try simp only [Act.put, List.setIfInBounds_toArray, List.set_cons_zero, List.set_cons_succ]
  refine wpAnyH_done (by kernel_rfl) ?_ _
  go_wp2
  exact bodyPost_ret (v := tv 1 ⟨#[]⟩ n 0 (.slice none 0 0)) (by simp [results, Tryd.results72, go_sem]) rfl ⟨rfl, (below_alloc w _).drew⟩
end Go.Proofs.YtncebhddcokkoaaDoor
/- A type is told: what is kept, and the terms that are being made. -/
namespace Go.Proofs.YtncebhddcokkoaaDoor
open Go.RowKit Go.Maps
set_option linter.unusedSimpArgs false
set_option linter.unusedVariables false
/-- Blocks of terms that were made. -/
def Tx (N : Nat) (c : Cfg) (M : Nat) (w : World) (b : Nat) : Prop := N ≤ b ∧ b ≠ c.B ∧ b ≠ M ∧ ∃ cs fr, w.heap[b]? = some (.cells cs 36 fr)
theorem IsX.kpM {N M : Nat} {c : Cfg} {w w' : World} {d : Nat} {v : Value} {t : Tm} (h : IsX (Tx N c M w) w d v t) (k : KpM c M w w') : IsX (Tx N c M w') w' d v t :=
  h.move fun b hX hl => by
    obtain ⟨h1, h2, h3, cs, fr, hb⟩ := hX
    have := k.kept hb h2 h3 (by decide)
    exact ⟨⟨h1, h2, h3, cs, fr, this⟩, by rw [this, hb]⟩
theorem find_stA {X : Nat → Prop} {c : Cfg} {A : Abs} {w : World} (h : StA X c A w) {i : Nat} (hi : i < A.l.length) :
    Calls Tryd.prog 55 #[.pointer (some ⟨c.B, 0, none⟩), .int .i64 i] w fun e w' => e = .returned (.int .i64 (A.r i : Nat)) ∧ StA X c A w' ∧ Kp c w w' := by
  obtain ⟨v, L, rk, h1, h2, h3, h5⟩ := h
  refine (find_any c rk v L A w i h1 h2 (by rw [← h2.len]; exact hi)).mono ?_
  rintro e w' ⟨rfl, L', k1, k2, k3, k4, _⟩
  refine ⟨rfl, ⟨v, L', rk, k1, k2, h3.same k3, fun x hx hne g o n cc e => ?_⟩, k4⟩
  obtain ⟨i, hi⟩ := List.getElem?_of_mem hx
  obtain ⟨y, b, hy, rfl⟩ := k3.back hi
  exact h5 y (List.mem_of_getElem? hy) hne g o n cc e
/-- A row of terms with these in it. -/
structure RowT (N : Nat) (c : Cfg) (M : Nat) (w : World) (sv : Value) (l : List T5) : Prop where
  own : w.ownsRow N 36 5 sv l.length (flatC l)
theorem RowT.blk {N : Nat} {c : Cfg} {M : Nat} {w : World} {sv : Value} {l : List T5} (h : RowT N c M w sv l) : ∀ g, sv.ownBlock = some g → N ≤ g ∧ ∃ cs, w.heap[g]? = some (.cells cs 36 (0, 0)) := by
  intro g hg
  rcases h.own.2 with ⟨rfl, h0⟩ | ⟨g', cap, cur, rfl, h3, h4, _⟩
  · cases hg
  · injection hg with hg
    subst hg
    exact ⟨h3, cur, h4⟩
theorem RowT.kpM {N : Nat} {c : Cfg} {M : Nat} {w w' : World} {sv : Value} {l : List T5} (h : RowT N c M w sv l) (k : KpM c M w w') (hB : c.B < N) (hM : M < N) : RowT N c M w' sv l := by
  refine ⟨own_kept h.own fun g x hg hx => ?_⟩
  obtain ⟨h1, cs, h2⟩ := h.blk g hg
  rw [h2] at hx
  cases hx
  exact k.kept h2 (by omega) (by omega) (by decide)
theorem RowT.shape {N : Nat} {c : Cfg} {M : Nat} {w : World} {sv : Value} {l : List T5} (h : RowT N c M w sv l) : ∃ q cc, sv = .slice q l.length cc := by
  rcases h.own.2 with ⟨rfl, h0⟩ | ⟨g', cap, cur, rfl, _⟩
  · exact ⟨none, 0, by rw [h0]⟩
  · exact ⟨_, _, rfl⟩
/-- What of the row is these terms. -/
def Dn (N : Nat) (c : Cfg) (M : Nat) (w : World) (sv : Value) (l : List T5) (done : List Tm) : Prop :=
  l.length = done.length ∧ ∀ (i : Nat) (x : Tm), done[i]? = some x → ∃ t, l[i]? = some t ∧ ∀ D, cnt2 x ≤ D → IsX (fun b => Tx N c M w b ∧ some b ≠ sv.ownBlock) w D (t5v t) x
theorem Dn.nil (N : Nat) (c : Cfg) (M : Nat) (w : World) : Dn N c M w (.slice none 0 0) [] [] := ⟨rfl, fun i x h => by simp at h⟩
theorem Dn.kpM {N : Nat} {c : Cfg} {M : Nat} {w w' : World} {sv : Value} {l : List T5} {done : List Tm} (h : Dn N c M w sv l done) (k : KpM c M w w') : Dn N c M w' sv l done := by
  refine ⟨h.1, fun i x hx => ?_⟩
  obtain ⟨t, h1, h2⟩ := h.2 i x hx
  refine ⟨t, h1, fun D hD => (h2 D hD).move fun b hX hl => ?_⟩
  obtain ⟨⟨h1, h2, h3, cs, fr, hb⟩, h4⟩ := hX
  have := k.kept hb h2 h3 (by decide)
  exact ⟨⟨⟨h1, h2, h3, cs, fr, this⟩, h4⟩, by rw [this, hb]⟩
/-- A term more: it was made behind W, where the row was already. -/
theorem RowT.next {N : Nat} {c : Cfg} {M : Nat} {W w1 : World} {sv : Value} {l : List T5} {k : Int} {p n : ByteArray} {I : Int} {q : Option Addr} {ln cc : Nat} (h : RowT N c M W sv l) (hk : KpM c M W w1) (hB : c.B < N) (hM : M < N) (hN : N ≤ W.heap.size) (hl : l.length ≤ 100000) :
    ∃ sv' w4, (Builtin.append_ #[34, 34] 34 #[sv, .slice (some ⟨w1.heap.size, 0, none⟩) 1 1]).run Tryd.prog (w1.alloc (.cells #[.int .i64 k, .string p, .string n, .int .i64 I, .slice q ln cc] 36)) = .ok sv' w4 ∧ RowT N c M w4 sv' (l ++ [(k, p, n, I, .slice q ln cc)]) ∧
      (w1.alloc (.cells #[.int .i64 k, .string p, .string n, .int .i64 I, .slice q ln cc] 36)).grownBy w4 sv.ownBlock ∧
      (∀ done x, Dn N c M W sv l done → (∀ D, cnt2 x ≤ D → IsX (Tx W.heap.size c M w1) w1 D (tv k p n I (.slice q ln cc)) x) → Dn N c M w4 sv' (l ++ [(k, p, n, I, .slice q ln cc)]) (done ++ [x])) := by
  have h1 := h.kpM hk hB hM
  have hnew := hb_new w1 (.cells #[.int .i64 k, .string p, .string n, .int .i64 I, .slice q ln cc] 36)
  have hs1 := hk.size
  obtain ⟨sv', w4, hrun, ho, hg, hblk⟩ := append_t (w1.alloc (.cells #[.int .i64 k, .string p, .string n, .int .i64 I, .slice q ln cc] 36)) N sv l (h1.own.alloc _) w1.heap.size 0 (k := k) (p := p) (n := n) (N := I) (q := q) (ln := ln) (c := cc)
    ⟨hb_at hnew 0 rfl, hb_at hnew 1 rfl, hb_at hnew 2 rfl, hb_at hnew 3 rfl, hb_at hnew 4 rfl⟩ 1 hl (by simp; omega)
  have hsa : (w1.alloc (.cells #[.int .i64 k, .string p, .string n, .int .i64 I, .slice q ln cc] 36)).heap.size = w1.heap.size + 1 := by simp
  refine ⟨sv', w4, hrun, ⟨ho⟩, hg, fun done x hd hx => ?_⟩
  have hlt : ∀ g, sv.ownBlock = some g → g < W.heap.size := fun g hg => by
    obtain ⟨_, cs, h2⟩ := h.blk g hg
    exact hb_lt h2
  have hstep : ∀ b, b < w1.heap.size → some b ≠ sv.ownBlock → w4.heap[b]? = w1.heap[b]? := fun b h1 h2 => by
    rw [hg.block b (by rw [hsa]; omega) h2, Below.heap_alloc w1 _ b h1]
  have hd1 := hd.kpM hk
  refine ⟨by rw [List.length_append, List.length_append, hd.1]; rfl, fun i y hy => ?_⟩
  have hown : ∀ b, b < w1.heap.size → some b ≠ sv.ownBlock → some b ≠ sv'.ownBlock := fun b h1 h2 e => by
    rcases hblk with h | h
    · exact h2 (e.trans h)
    · rw [h] at e; have := Option.some.inj e; omega
  rw [List.getElem?_append] at hy
  split at hy
  · rename_i hi
    obtain ⟨t, e1, e2⟩ := hd1.2 i y hy
    refine ⟨t, by rw [List.getElem?_append_left (by rw [hd.1]; omega)]; exact e1, fun D hD => (e2 D hD).move fun b hX hl2 => ?_⟩
    obtain ⟨⟨g1, g2, g3, cs, fr, hb⟩, g4⟩ := hX
    have e := hstep b hl2 g4
    exact ⟨⟨⟨g1, g2, g3, cs, fr, e.trans hb⟩, hown b hl2 g4⟩, e⟩
  · rename_i hi
    have hi2 : i - done.length = 0 := by
      have := (List.getElem?_eq_some_iff.1 hy).1
      simp at this
      omega
    rw [hi2] at hy
    obtain rfl : x = y := by simpa using hy
    have hil : i = l.length := by rw [hd.1]; omega
    refine ⟨_, by rw [hil]; exact List.getElem?_concat_length, fun D hD => (hx D hD).move fun b hX hl2 => ?_⟩
    obtain ⟨g1, g2, g3, cs, fr, hb⟩ := hX
    have g4 : some b ≠ sv.ownBlock := fun e => by have := hlt b e.symm; omega
    have e := hstep b hl2 g4
    exact ⟨⟨⟨by omega, g2, g3, cs, fr, e.trans hb⟩, hown b hl2 g4⟩, e⟩
/-- All made. -/
theorem RowT.kids {N N' : Nat} {c : Cfg} {M : Nat} {w : World} {sv : Value} {l : List T5} {ts : List Tm} (h : RowT N c M w sv l) (hd : Dn N c M w sv l ts) (hN : N' ≤ N) (hB : c.B < N) (hM : M < N) (hl : ts.length ≤ maxLen) {D : Nat} (hD : ∀ x ∈ ts, cnt2 x ≤ D) : KidsX (Tx N' c M w) w D sv ts := by
  obtain ⟨hfl, ⟨rfl, h0⟩ | ⟨g, cap, cur, rfl, hbg, hh, _, _, _, htk⟩⟩ := h.own
  · have : ts = [] := List.eq_nil_of_length_eq_zero (by have := hd.1; omega)
    subst this
    exact ⟨none, 0, rfl, hl, fun i x h => by simp at h⟩
  · refine ⟨some ⟨g, 0, none⟩, cap, by rw [hd.1], hl, fun i x hx => ?_⟩
    obtain ⟨t, h1, h2⟩ := hd.2 i x hx
    have hi : i < l.length := (List.getElem?_eq_some_iff.1 h1).1
    have hcell : ∀ j (hj : j < 5), w.cell? ⟨g, 0 + i * 5 + j, none⟩ = (flatC l)[i * 5 + j]? := fun j hj => by
      rw [hb_cell hh, ← htk, List.getElem?_take, if_pos (by omega), Array.getElem?_toList, Nat.zero_add]
    have hflat : ∀ j (hj : j < 5), (flatC l)[i * 5 + j]? = [Value.int .i64 t.1, .string t.2.1, .string t.2.2.1, .int .i64 t.2.2.2.1, t.2.2.2.2][j]? := fun j hj => by
      have e : l = l.take i ++ t :: l.drop (i + 1) := by
        have h4 := List.getElem?_eq_some_iff.1 h1
        rw [← h4.2, List.getElem_cons_drop, List.take_append_drop]
      rw [e]
      have e2 : flatC (l.take i ++ t :: l.drop (i + 1)) = flatC (l.take i) ++ ([Value.int .i64 t.1, .string t.2.1, .string t.2.2.1, .int .i64 t.2.2.2.1, t.2.2.2.2] ++ flatC (l.drop (i + 1))) := by simp [flatC]
      have e3 : (flatC (l.take i)).length = i * 5 := by rw [flatC_length, List.length_take]; omega
      rw [e2, List.getElem?_append_right (by omega), e3, List.getElem?_append_left (by simp; omega)]
      congr 1
      omega
    have c0 := (hcell 0 (by omega)).trans (hflat 0 (by omega))
    have c1 := (hcell 1 (by omega)).trans (hflat 1 (by omega))
    have c2 := (hcell 2 (by omega)).trans (hflat 2 (by omega))
    have c3 := (hcell 3 (by omega)).trans (hflat 3 (by omega))
    have c4 := (hcell 4 (by omega)).trans (hflat 4 (by omega))
    exact ⟨g, 0, t.1, t.2.1, t.2.2.1, t.2.2.2.1, t.2.2.2.2, rfl, ⟨by omega, by omega, by omega, cur, (0, 0), hh⟩, ⟨c0, c1, c2, c3, c4⟩, (h2 D (hD x (List.mem_of_getElem? hx))).move fun b hX hl => ⟨⟨by have := hX.1.1; omega, hX.1.2⟩, rfl⟩⟩
end Go.Proofs.YtncebhddcokkoaaDoor
/- A type is told: a variable. -/
namespace Go.Proofs.YtncebhddcokkoaaDoor
open Go.RowKit Go.Maps
set_option linter.unusedSimpArgs false
set_option linter.unusedVariables false
theorem SV.kpM {X : Nat → Prop} {c : Cfg} {N : Nat} {A : Abs} {ns : List ByteArray} {ρ : ByteArray → Option Nat} {sv nv : Value} {M P bl : Nat} {w w' : World} (h : SV X c N A ns ρ sv nv M P w) (hst : StA X c A w') (k : KpM c bl w w') {cs : Array Value} {fr : Nat × Nat} (hbl : w.heap[bl]? = some (.cells cs 3 fr)) : SV X c N A ns ρ sv nv M P w' := by
  obtain ⟨v, L, rk, p1, _, _, _⟩ := h.st
  have hB := p1.blk
  have hmap : ∀ (m : Nat) es cl, w.heap[m]? = some (.map es cl) → w'.heap[m]? = w.heap[m]? := fun m es cl hm => by
    rw [hm]
    refine k.block m _ hm (fun e => ?_) (fun e => ?_) (fun cs fr e => by cases e)
    · rw [e, hB] at hm; cases hm
    · rw [e, hbl] at hm; cases hm
  obtain ⟨es, cl, hm⟩ := h.vm.heap
  obtain ⟨g, hg, hgp⟩ := h.pl
  obtain ⟨es', cl', hm'⟩ := hg.heap
  refine ⟨hst, h.ty, h.rest, own_kept h.row (fun b y hb hy => ?_), h.vm.same (hmap _ _ _ hm), ⟨g, hg.same (hmap _ _ _ hm'), hgp⟩, h.few, h.dom⟩
  have hb2 : ∃ cs', w.heap[b]? = some (.cells cs' 9 (0, 0)) := by
    rcases h.row.2 with ⟨rfl, _⟩ | ⟨g', cap, cur, rfl, _, h4, _⟩
    · cases hb
    · injection hb with hb
      subst hb
      exact ⟨_, h4⟩
  obtain ⟨cs', hb2⟩ := hb2
  rw [hb2] at hy
  cases hy
  refine k.kept hb2 (fun e => ?_) (fun e => ?_) (by decide)
  · have := type_ne (hb2) hB (by rw [h.ty]; decide)
    exact this e
  · exact type_ne hb2 hbl (by decide) e
/-- A cell of a block that is no store's is stored. -/
theorem StA.other {X : Nat → Prop} {c : Cfg} {A : Abs} {w : World} (h : StA X c A w) {n : Nat} {cs : Array Value} {t : TypeId} {fr : Nat × Nat} (hc : w.heap[n]? = some (.cells cs t fr)) (h3 : t ≠ 3) (h90 : t ≠ 90) (hB : n ≠ c.B) (i : Nat) (u : Value) : StA X c A (w.setCell ⟨n, i, none⟩ u) := by
  obtain ⟨v, L, rk, p1, h2, h3', h4⟩ := h
  refine ⟨v, L, rk, ⟨p1.hb, p1.ne, hb_set_other p1.blk u (fun e => hB e.symm), ?_, fun x hx => ?_, p1.few⟩, h2, h3', h4⟩
  · rcases p1.row with h1 | ⟨g, cap, cur, h1, h2, h3, h4⟩
    · exact .inl h1
    · exact .inr ⟨g, cap, cur, h1, h2, hb_set_other h3 u (fun e => type_ne h3 hc (fun e => h90 e.symm) e), h4⟩
  · obtain ⟨q, cc, e1, e2⟩ := p1.kid x hx
    refine ⟨q, cc, e1, ?_⟩
    rcases e2 with e2 | ⟨g, o, cs', fr', e, hg, hB', hc'⟩
    · exact .inl e2
    · exact .inr ⟨g, o, cs', fr', e, hb_set_other hg u (fun e5 => type_ne hg hc (fun e => h3 e.symm) e5), hB', hc'⟩
/-- Five cells of a block are stored. -/
abbrev put5 (w : World) (b : Nat) (v0 v1 v2 v3 v4 : Value) : World := ((((w.setCell ⟨b, 0, none⟩ v0).setCell ⟨b, 1, none⟩ v1).setCell ⟨b, 2, none⟩ v2).setCell ⟨b, 3, none⟩ v3).setCell ⟨b, 4, none⟩ v4
theorem put5_other {w : World} {b g : Nat} {x : Obj} (h : w.heap[g]? = some x) (hg : g ≠ b) (v0 v1 v2 v3 v4 : Value) : (put5 w b v0 v1 v2 v3 v4).heap[g]? = some x :=
  hb_set_other (hb_set_other (hb_set_other (hb_set_other (hb_set_other h v0 hg) v1 hg) v2 hg) v3 hg) v4 hg
theorem StA.put5 {X : Nat → Prop} {c : Cfg} {A : Abs} {w : World} (h : StA X c A w) {n : Nat} {cs : Array Value} {fr : Nat × Nat} (hc : w.heap[n]? = some (.cells cs 36 fr)) (hB : n ≠ c.B) (v0 v1 v2 v3 v4 : Value) : StA X c A (put5 w n v0 v1 v2 v3 v4) := by
  have h0 := h.other hc (by decide) (by decide) hB 0 v0
  have c0 := hb_set_same hc 0 v0
  have h1 := h0.other c0 (by decide) (by decide) hB 1 v1
  have c1 := hb_set_same c0 1 v1
  have h2 := h1.other c1 (by decide) (by decide) hB 2 v2
  have c2 := hb_set_same c1 2 v2
  have h3 := h2.other c2 (by decide) (by decide) hB 3 v3
  have c3 := hb_set_same c2 3 v3
  exact h3.other c3 (by decide) (by decide) hB 4 v4
theorem KpM.put5 {c : Cfg} {M n : Nat} {w w1 : World} (h : KpM c M w w1) (hn : w.heap.size ≤ n) (hb : c.b0 ≤ w.heap.size) (v0 v1 v2 v3 v4 : Value) : KpM c M w (put5 w1 n v0 v1 v2 v3 v4) :=
  ((((h.set_new hn hb 0 v0).set_new hn hb 1 v1).set_new hn hb 2 v2).set_new hn hb 3 v3).set_new hn hb 4 v4
/-- The map's own block, or a box, is stored. -/
theorem KpM.set_own {c : Cfg} {M : Nat} {w w1 : World} (h : KpM c M w w1) (hb : c.b0 ≤ M) (i : Nat) (u : Value) : KpM c M w (w1.setCell ⟨M, i, none⟩ u) :=
  ⟨h.below.setCell hb _, by rw [show (w1.setCell ⟨M, i, none⟩ u).heap.size = w1.heap.size by simp [World.setCell]]; exact h.size, fun g x h1 h2 h3 h4 => hb_set_other (h.block g x h1 h2 h3 h4) u (fun e => h3 e)⟩
/-- tell's boxes. -/
structure Tb (c : Cfg) (bl bs bv bt bq : Nat) (w : World) : Prop where
  hs : w.heap[bs]? = some (.cells #[.pointer (some ⟨c.B, 0, none⟩)] 51 (0, 0))
  hv : w.heap[bv]? = some (.cells #[.func (.func 72) #[] #[.pointer (some ⟨bq, 0, none⟩)]] 98 (0, 0))
  ht : w.heap[bt]? = some (.cells #[.func (.func 78) #[] #[.pointer (some ⟨bl, 0, none⟩), .pointer (some ⟨bs, 0, none⟩), .pointer (some ⟨bv, 0, none⟩), .pointer (some ⟨bt, 0, none⟩)]] 98 (0, 0))
  hq : w.heap[bq]? = some (.cells #[.pointer (some ⟨c.B, 0, none⟩)] 68 (0, 0))
  nB : c.B ≠ bl ∧ c.B ≠ bs ∧ c.B ≠ bv ∧ c.B ≠ bt ∧ c.B ≠ bq
  nl : bl ≠ bs ∧ bl ≠ bv ∧ bl ≠ bt ∧ bl ≠ bq
  b0 : c.b0 ≤ bl
set_option maxRecDepth 100000 in
theorem Tb.kept {c : Cfg} {bl bs bv bt bq : Nat} {w w' : World} (h : Tb c bl bs bv bt bq w) (k : KpM c bl w w') : Tb c bl bs bv bt bq w' := by
  have h1 := h.nB; have h2 := h.nl
  exact ⟨k.kept h.hs (by omega) (by omega) (by decide), k.kept h.hv (by omega) (by omega) (by decide), k.kept h.ht (by omega) (by omega) (by decide), k.kept h.hq (by omega) (by omega) (by decide), h1, h2, h.b0⟩
/-- What telling a type leaves. -/
def ToldQ (c : Cfg) (N : Nat) (A : Abs) (ns : List ByteArray) (ρ : ByteArray → Option Nat) (sv nv : Value) (M P bl : Nat) (t : Tm) (n : Nat) (w : World) (e : Ending) (w' : World) : Prop :=
  ∃ (k I : Int) (p m : ByteArray) (q : Option Addr) (l cc : Nat), e = .returned (tv k p m I (.slice q l cc)) ∧ SV (fun g => g = bl) c N A ns ρ sv nv M P w' ∧ KpM c bl w w' ∧
    (cnt2 t ≤ n → w'.heap[bl]? = some (.cells #[.int .i64 ((n - cnt2 t : Nat) : Int)] 3 (0, 0)) ∧ ∀ D, cnt2 t ≤ D → IsX (Tx w.heap.size c bl w') w' D (tv k p m I (.slice q l cc)) t) ∧
    (n < cnt2 t → w'.heap[bl]? = some (.cells #[.int .i64 (-1)] 3 (0, 0)))
set_option maxRecDepth 100000 in
set_option maxHeartbeats 1000000 in
theorem told_var {c : Cfg} {N : Nat} {A : Abs} {ns : List ByteArray} {ρ : ByteArray → Option Nat} {sv nv : Value} {M P bl bs bv bt bq : Nat} {w : World} {i n : Nat} {X : Inf} {nm : ByteArray} (h : SV (fun g => g = bl) c N A ns ρ sv nv M P w) (hb : Tb c bl bs bv bt bq w) (hl : w.heap[bl]? = some (.cells #[.int .i64 (n : Nat)] 3 (0, 0))) (hn : 1 ≤ n) (hn2 : n ≤ 1000) (hi : i < A.l.length) (hX : A.l[A.r i]? = some X) (hk : X.k = 1) (hρ : ρ nm = some (A.r i)) (hns : nm.size ≤ maxLen) :
    Calls Tryd.prog 78 #[.int .i64 (i : Nat), .pointer (some ⟨bl, 0, none⟩), .pointer (some ⟨bs, 0, none⟩), .pointer (some ⟨bv, 0, none⟩), .pointer (some ⟨bt, 0, none⟩)] w (ToldQ c N A ns ρ sv nv M P bl (vN nm) n w) := by
  have hsz := h.st.st.lt
  have hbw : c.b0 ≤ w.heap.size := by omega
  have hlw := hb_lt hl
  have l0 := hb_at hl 0 rfl
  have lf := hb_free hl 0
  have hk0 := (KpM.refl c bl w).set_own hb.b0 0 (.int .i64 ((n : Int) - 1))
  have hst0 := h.st.put rfl hl (fun e => hb.nB.1 e.symm) 0 (.int .i64 ((n : Int) - 1))
  have hl0 : (w.setCell ⟨bl, 0, none⟩ (.int .i64 ((n : Int) - 1))).heap[bl]? = some (.cells #[.int .i64 ((n : Int) - 1)] 3 (0, 0)) := hb_set_same hl 0 _
  have hsz0 : (w.setCell ⟨bl, 0, none⟩ (.int .i64 ((n : Int) - 1))).heap.size = w.heap.size := by simp [World.setCell]
  have hba := below_alloc (w.setCell ⟨bl, 0, none⟩ (.int .i64 ((n : Int) - 1))) (.cells #[.int .i64 0, .string ⟨#[]⟩, .string ⟨#[]⟩, .int .i64 0, .slice none 0 0] 36)
  have hk1 := hk0.trans (KpM.of_below (c := c) (M := bl) (by rw [hsz0]; exact hbw) hba)
  have hst1 := hst0.below hba
  have hl1 := hb_below hl0 hba (hb_lt hl0)
  have h61 := hb_new (w.setCell ⟨bl, 0, none⟩ (.int .i64 ((n : Int) - 1))) (.cells #[.int .i64 0, .string ⟨#[]⟩, .string ⟨#[]⟩, .int .i64 0, .slice none 0 0] 36)
  rw [hsz0] at h61
  have hb1 := hb.kept hk1
  have h1 := h.kpM hst1 hk1 hl
  have HF := Lib.hid fun (W : World) (hW : StA (fun g => g = bl) c A W) => find_stA hW hi
  have H := Lib.hid h
  have HL := Lib.hid hl
  have HB := Lib.hid hb
  have HK1 := Lib.hid hk1
  have HST1 := Lib.hid hst1
  have HL1 := Lib.hid hl1
  have H61 := Lib.hid h61
  have HB1 := Lib.hid hb1
  have H1 := Lib.hid h1
  have HXX := Lib.hid hX
  have HRI := Lib.hid hρ
  clear h hb hl hk1 hst1 hl1 h61 hb1 h1 hba hk0 hst0 hl0 hX hρ
  go_enter Tryd.func78, Tryd.ntmps78
  go_upto_region 2 with (fail)
  generalize (w.setCell ⟨bl, 0, none⟩ (.int .i64 ((n : Int) - 1))).alloc (.cells #[.int .i64 0, .string ⟨#[]⟩, .string ⟨#[]⟩, .int .i64 0, .slice none 0 0] 36) = W1 at *
  have s0 := hb_at HB1.out.hs 0 rfl
  have hgen : ∀ w3, StA (fun g => g = bl) c A w3 → ∃ g cap m, w3.cell? ⟨c.B, 0, none⟩ = some (.slice (some ⟨g, 0, none⟩) m cap) ∧ A.r i < m ∧ m ≤ 100000 ∧ w3.cell? ⟨g, A.r i * 9, none⟩ = some (.int .i64 X.k) := by
    rintro w3 ⟨v, L, rk, p1, p2, _, _⟩
    obtain ⟨x, hx, hxi⟩ := p2.back HXX.out
    obtain ⟨g, cap, rfl, hgB, hg0, hc1, hc2, t0, t1, t2, t3, t4, x0, x1, x2, x3, x4, x5, x6, x7, x8, hfz⟩ := p1.at hx
    rw [hxi] at x0
    exact ⟨g, cap, L.length, t0, (List.getElem?_eq_some_iff.1 hx).1, p1.few, x0⟩
  have HGEN := Lib.hid hgen
  clear hgen
  go_upto_region 3 with (go_at_call 55; go_loud ((with_reducible refine (HF.out _ HST1.out).mono ?_); rintro e w3 ⟨rfl, h3, k3⟩; have HST3 := Lib.hid h3; have HK3 := Lib.hid (HK1.out.trans k3.m); have H3 := Lib.hid (H1.out.kpM h3 k3.m HL1.out); have HB3 := Lib.hid (HB1.out.kept k3.m); have hb1' := HB1.out.nB; have HL3 := Lib.hid (k3.block _ _ HL1.out (fun e => hb1'.1 e.symm) (fun cs fr e => by injection e with _ e _; exact absurd e (by decide))); have h63 := k3.block _ _ H61.out (by omega) (fun cs fr e => by injection e with _ e _; exact absurd e (by decide)); have H63 := Lib.hid h63; obtain ⟨g, cap, m, n0, nlt, nle, n1⟩ := HGEN.out _ h3; have s3 := hb_at HB3.out.hs 0 rfl; have v3 := hb_at HB3.out.hv 0 rfl; clear h3 k3 h63 hb1'))
  rw [hk] at n1
  have nlt2 : ((A.r i : Nat) : Int) < (m : Int) := by omega
  have HT := Lib.hid (told72 H3.out HB3.out.hq HRI.out (by omega))
  go_wp2_with (go_at_call 72; (with_reducible refine HT.out.mono ?_); rintro e w4 ⟨rfl, hb4⟩; have h64 := hb_below H63.out hb4 (hb_lt H63.out); have y0 := hb_at h64 0 rfl; have y1 := hb_at h64 1 rfl; have y2 := hb_at h64 2 rfl; have y3 := hb_at h64 3 rfl; have y4 := hb_at h64 4 rfl; have yf := fun j => hb_free h64 j; have f0 := yf 0; have f1 := yf 1; have f2 := yf 2; have f3 := yf 3; have f4 := yf 4; have HB4 := Lib.hid hb4; have H64 := Lib.hid h64; clear hb4 h64 yf)
  all_goals
    have hsz3 := HK3.out.size
    have hk34 : KpM c bl w w4 := HK3.out.trans (KpM.of_below (by omega) HB4.out)
    have hfin := hk34.put5 (n := w.heap.size) (Nat.le_refl _) hbw (.int .i64 1) (.string ⟨#[]⟩) (.string nm) (.int .i64 0) (.slice none 0 0)
    have hst4 := (HST3.out.below HB4.out).put5 H64.out (by omega) (.int .i64 1) (.string ⟨#[]⟩) (.string nm) (.int .i64 0) (.slice none 0 0)
    have hl4 := put5_other (hb_below HL3.out HB4.out (hb_lt HL3.out)) (show bl ≠ w.heap.size by omega) (.int .i64 1) (.string ⟨#[]⟩) (.string nm) (.int .i64 0) (.slice none 0 0)
    have hc1 : cnt2 (vN nm) = 1 := by rw [cnt2_eq]; rfl
    refine bodyPost_ret (v := tv 1 ⟨#[]⟩ nm 0 (.slice none 0 0)) (by simp [results, Tryd.results78, go_sem, y0, y1, y2, y3, y4]) rfl ⟨1, 0, ⟨#[]⟩, nm, none, 0, 0, rfl, H.out.kpM hst4 hfin HL.out, hfin, fun hcn => ⟨?_, fun D hD => ?_⟩, fun hcn => by omega⟩
    · rw [hl4, hc1]
      have : ((n - 1 : Nat) : Int) = (n : Int) - 1 := by omega
      rw [this]
    · rw [hc1] at hD
      obtain ⟨D, rfl⟩ : ∃ m, D = m + 1 := ⟨D - 1, by omega⟩
      exact ⟨none, 0, rfl, Nat.zero_le _, hns, Nat.zero_le _, fun i x h => by simp at h⟩
end Go.Proofs.YtncebhddcokkoaaDoor
