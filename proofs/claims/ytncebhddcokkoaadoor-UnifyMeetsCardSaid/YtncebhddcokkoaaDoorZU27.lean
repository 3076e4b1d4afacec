/- Texts in a row: Le Lf Lg. -/
import Derived.Test.YtncebhddcokkoaaDoorZU26
import Derived.Test.YtncebhddcokkoaaDoorZU9
/- A map of numbers. -/
namespace Go.Proofs.YtncebhddcokkoaaDoor
open Go.RowKit Go.Maps
set_option linter.unusedSimpArgs false
set_option linter.unusedVariables false
theorem K3 : Maps.Keyed Tryd.prog 3 := Maps.int_keyed Tryd.underlying3
theorem key3 (s : Int) (h : (Lit.int .i64 s).wf = true) : keyOf Tryd.prog 3 (.int .i64 s) = some (.int .i64 s) := by
  simp [keyOf, Tryd.underlying3, mapKey, h]
theorem num_ne {s t : Int} (h : t ≠ s) : (Lit.int .i64 t) ≠ Lit.int .i64 s := fun e => h (by simpa using e)
def IMap (w : World) (M n : Nat) (g : Int → Option Int) : Prop := ∃ D : DataW Unit, w.ownsMap Tryd.prog 3 (plainElem Tryd.prog 3) M n D ∧ ∀ s : Int, D.atKey (.int .i64 s) (.lit (.int .i64 0)) = .lit (.int .i64 ((g s).getD 0))
section
variable {w w' : World} {M n : Nat} {g : Int → Option Int}
theorem IMap.lt (h : IMap w M n g) : M < w.heap.size := h.elim fun _ h => h.1.lt
theorem IMap.same (h : IMap w M n g) (hb : w'.heap[M]? = w.heap[M]?) : IMap w' M n g := by
  obtain ⟨D, ⟨es, clock, h1, h2⟩, h3⟩ := h
  exact ⟨D, ⟨es, clock, hb.trans h1, h2⟩, h3⟩
theorem IMap.below (h : IMap w M n g) (hb : Below w.heap.size w w') : IMap w' M n g := h.same (hb.block M h.lt)
theorem IMap.heap (h : IMap w M n g) : ∃ es clock, w.heap[M]? = some (.map es clock) := by
  obtain ⟨D, ⟨es, clock, hb, _⟩, _⟩ := h
  exact ⟨es, clock, hb⟩
theorem IMap.made (w : World) : IMap (w.alloc (.map #[] 0)) w.heap.size 0 fun _ => none := ⟨_, World.ownsMap_made w _ _ _, fun _ => rfl⟩
theorem IMap.look (h : IMap w M n g) (s : Int) (hs : (Lit.int .i64 s).wf = true) : (Instr.lookup 84 (.map (some M)) (.int .i64 s) false).run Tryd.prog w = .ok (.int .i64 ((g s).getD 0)) w := by
  obtain ⟨D, hD, hg⟩ := h
  obtain ⟨v, ps, hrun, hv⟩ := hD.lookup K3 Tryd.underlying84 (zero3 w) (zd := .lit (.int .i64 0)) (zp := []) (plainElem_int Tryd.underlying3 (by decide)) (key3 s hs)
  obtain ⟨c, rfl, hc, _⟩ := plainElem_int_inv Tryd.underlying3 hv
  simp only [Prod.mk.injEq] at hc
  rw [hg s] at hc
  have e : (g s).getD 0 = c := by simpa using hc.1
  rw [hrun, e]
theorem IMap.put (h : IMap w M n g) (hn : n < maxLen) (s : Int) (hs : (Lit.int .i64 s).wf = true) (x : Int) (hx : (Lit.int .i64 x).wf = true) :
    ∃ w', (Instr.mapUpdate 84 (.map (some M)) (.int .i64 s) (.int .i64 x)).run Tryd.prog w = .ok () w' ∧ IMap w' M (n + 1) (fun t => if t = s then some x else g t) ∧ w.mapTurned w' M := by
  obtain ⟨D, hD, hg⟩ := h
  obtain ⟨w', hrun, h1, h2⟩ := hD.store K3 Tryd.underlying84 hn (val := .int .i64 x) (d := .lit (.int .i64 x)) (ps := []) (key3 s hs) (plainElem_int Tryd.underlying3 hx)
  refine ⟨w', hrun, ⟨_, h1, fun t => ?_⟩, h2⟩
  have hK : WideAt.IsKeyLit (.int .i64 s) := trivial
  dsimp only
  by_cases e : t = s
  · rw [if_pos e, e]
    exact atKey_put_same hD.isMap hK _ _
  · rw [if_neg e]
    exact (atKey_put_other (num_ne e) _ _).trans (hg t)
theorem PMap.look1 {g : ByteArray → Option Int} (h : PMap w M n g) (s : ByteArray) (hs : s.size ≤ maxLen) : (Instr.lookup 83 (.map (some M)) (.string s) false).run Tryd.prog w = .ok (.int .i64 ((g s).getD 0)) w := by
  obtain ⟨D, hD, hg⟩ := h
  obtain ⟨v, ps, hrun, hv⟩ := hD.lookup K9 Tryd.underlying83 (zero3 w) (zd := .lit (.int .i64 0)) (zp := []) (plainElem_int Tryd.underlying3 (by decide)) (key9 s hs)
  obtain ⟨c, rfl, hc, _⟩ := plainElem_int_inv Tryd.underlying3 hv
  simp only [Prod.mk.injEq] at hc
  rw [(hg s).1] at hc
  have e : (g s).getD 0 = c := by simpa using hc.1
  rw [hrun, e]
variable {ops : Array Oper} {rest : List Oper} {o : Oper} {a : Act} {Q : Exit → Act → World → Prop}
theorem wpList_pm_look1 {g : ByteArray → Option Int} (hg : o.guard = none) (m x : Operand) (hop : o.op = Op.lookup 83 m x false) (hm : a.eval m = .map (some M)) (h : PMap w M n g) (s : ByteArray) (hx : a.eval x = .string s) (hs : s.size ≤ maxLen)
    (i : Int) (hi : (g s).getD 0 = i) (hK : wpList Tryd.prog ops Q rest (a.put o.dst (.int .i64 i)) w) : wpList Tryd.prog ops Q (o :: rest) a w := by
  refine wpList_plain hg fun K' hK' => ?_
  unfold Oper.wp
  simp [execOp, hop, hm, hx, h.look1 s hs, Result.andThen]
  rw [hi]
  exact hK' _ _ hK
end
end Go.Proofs.YtncebhddcokkoaaDoor
/- A solver: its names, and the places of its variables; a variable is told. -/
namespace Go.Proofs.YtncebhddcokkoaaDoor
open Go.RowKit Go.Maps
set_option linter.unusedSimpArgs false
set_option linter.unusedVariables false
/-- A solver whose equations are solved. -/
structure SV (X : Nat → Prop) (c : Cfg) (N : Nat) (A : Abs) (ns : List ByteArray) (ρ : ByteArray → Option Nat) (sv nv : Value) (M P : Nat) (w : World) : Prop where
  st : StA X c A w
  ty : c.T = 86
  rest : c.rest = [sv, nv, .map (some M), .map (some P)]
  row : w.ownsRow N 9 1 nv ns.length (ns.map .string)
  vm : PMap w M ns.length fun n => (ρ n).map Int.ofNat
  pl : ∃ g, IMap w P ns.length g ∧ ∀ (n : ByteArray) (z j : Nat), ρ n = some z → ns[j]? = some n → g (z : Int) = some (j : Int)
  few : ns.length ≤ 50000
  dom : ∀ n, n ∈ ns ↔ ∃ i, ρ n = some i
set_option maxRecDepth 100000 in
set_option maxHeartbeats 1000000 in
theorem told72 {X : Nat → Prop} {c : Cfg} {N : Nat} {A : Abs} {ns : List ByteArray} {ρ : ByteArray → Option Nat} {sv nv : Value} {M P : Nat} {w : World} (h : SV X c N A ns ρ sv nv M P w) {bq : Nat} (hq : w.heap[bq]? = some (.cells #[.pointer (some ⟨c.B, 0, none⟩)] 68 (0, 0))) {n : ByteArray} {z : Nat} (hn : ρ n = some z) (hzl : z ≤ 100000) :
    Calls Tryd.prog 72 #[.int .i64 (z : Nat), .pointer (some ⟨bq, 0, none⟩)] w fun e w' => e = .returned (tv 1 ⟨#[]⟩ n 0 (.slice none 0 0)) ∧ Below w.heap.size w w' := by
  have hm : n ∈ ns := (h.dom n).2 ⟨z, hn⟩
  obtain ⟨j, hj⟩ := List.getElem?_of_mem hm
  obtain ⟨g, hg, hgp⟩ := h.pl
  have hgz := hgp n z j hn hj
  have hgj : (g (z : Int)).getD 0 = (j : Int) := by rw [hgz]; rfl
  have hz : (Lit.int .i64 (z : Nat)).wf = true := WalkArith.wf_i64 (by omega)
  have hjl := (List.getElem?_eq_some_iff.1 hj).1
  obtain ⟨v, L, rk, p1, _, _, _⟩ := h.st
  have hblk := p1.blk
  rw [h.rest] at hblk
  have ha := below_alloc w (.cells #[.int .i64 0, .string ⟨#[]⟩, .string ⟨#[]⟩, .int .i64 0, .slice none 0 0] 36)
  obtain ⟨_, ⟨_, h0⟩ | ⟨gn, cn, cur, rfl, hgN, hgb, hc1, hc2, hcs, htk⟩⟩ := h.row
  · omega
  have hnj : cur[j]? = some (.string n) := by
    have e : (cur.toList.take (ns.length * 1))[j]? = (ns.map Value.string)[j]? := by rw [htk]
    rw [List.getElem?_take, if_pos (by omega), List.getElem?_map, hj, Array.getElem?_toList] at e
    exact e
  have Q0 := Lib.hid (hb_at hq 0 rfl)
  have B6 := Lib.hid (hb_at hblk 6 rfl)
  have B8 := Lib.hid (hb_at hblk 8 rfl)
  have NJ := Lib.hid (hb_at hgb j hnj)
  have HG := Lib.hid hg
  have HA := Lib.hid ha
  have hfew := h.few
  have hjn : (j : Int) < (ns.length : Int) := by omega
  clear h hq hn hm hgp hgz hg p1 hblk hgb htk ha
  go_enter Tryd.func72, Tryd.ntmps72
  go_upto_region 1 with (fail)
  refine wp_region_held_drew (S := (fun w' => RowKit.Hid (Below w.heap.size w w') ∧ w'.cell? ⟨bq, 0, none⟩ = some (.pointer (some ⟨c.B, 0, none⟩)) ∧ w'.cell? ⟨c.B, 6, none⟩ = some (.slice (some ⟨gn, 0, none⟩) ns.length cn) ∧ w'.cell? ⟨c.B, 8, none⟩ = some (.map (some P)) ∧ w'.cell? ⟨gn, j, none⟩ = some (.string n))) (by kernel_rfl) (by exact ⟨Lib.hid (below_alloc w _).drew, keep_cell HA.out.drew Q0.out, keep_cell HA.out.drew B6.out, keep_cell HA.out.drew B8.out, keep_cell HA.out.drew NJ.out⟩) (fun hHeld => ?_)
  refine wpAnyH_take (i := 0) (oi := ⟨some 4, _, _, _, _, _⟩) (v := ?_) rfl (by kernel_rfl) (by kernel_rfl) (by kernel_rfl) (fun _ _ _ h => h) (Or.inl ⟨by rfl, ?_⟩) (by assumption) ?_
  rotate_left
  focus (intro w hSw; (try dsimp only at hSw); go_simp; first | done | with_reducible rfl)
  try simp only [Act.put, List.setIfInBounds_toArray, List.set_cons_zero, List.set_cons_succ]
  refine wpAnyH_take (i := 1) (oi := ⟨some 5, _, _, _, _, _⟩) (v := ?_) rfl (by kernel_rfl) (by kernel_rfl) (by kernel_rfl) (fun _ _ _ h => h) (Or.inl ⟨by rfl, ?_⟩) (by assumption) ?_
  rotate_left
  focus (intro w hSw; (try dsimp only at hSw); go_simp; first | done | with_reducible rfl)
  try simp only [Act.put, List.setIfInBounds_toArray, List.set_cons_zero, List.set_cons_succ]
  refine wpAnyH_take (i := 2) (oi := ⟨some 6, _, _, _, _, _⟩) (v := ?_) rfl (by kernel_rfl) (by kernel_rfl) (by kernel_rfl) (fun _ _ _ h => h) (Or.inl ⟨by rfl, ?_⟩) (by assumption) ?_
  rotate_left
  focus (intro w hSw; (try dsimp only at hSw); go_simp; first | done | with_reducible rfl)
  try simp only [Act.put, List.setIfInBounds_toArray, List.set_cons_zero, List.set_cons_succ]
  refine wpAnyH_take (i := 3) (oi := ⟨some 7, _, _, _, _, _⟩) (v := ?_) rfl (by kernel_rfl) (by kernel_rfl) (by kernel_rfl) (fun _ _ _ h => h) (Or.inl ⟨by rfl, ?_⟩) (by assumption) ?_
  rotate_left
  focus (intro w hSw; (try dsimp only at hSw); go_simp; first | done | with_reducible rfl)
  try simp only [Act.put, List.setIfInBounds_toArray, List.set_cons_zero, List.set_cons_succ]
  refine wpAnyH_take (i := 4) (oi := ⟨some 8, _, _, _, _, _⟩) (v := ?_) rfl (by kernel_rfl) (by kernel_rfl) (by kernel_rfl) (fun _ _ _ h => h) (Or.inl ⟨by rfl, ?_⟩) (by assumption) ?_
  rotate_left
  focus (intro w hSw; (try dsimp only at hSw); go_simp; first | done | with_reducible rfl)
  try simp only [Act.put, List.setIfInBounds_toArray, List.set_cons_zero, List.set_cons_succ]
  refine wpAnyH_take (i := 5) (oi := ⟨some 9, _, _, _, _, _⟩) (v := ?_) rfl (by kernel_rfl) (by kernel_rfl) (by kernel_rfl) (fun _ _ _ h => h) (Or.inl ⟨by rfl, ?_⟩) (by assumption) ?_
  rotate_left
  focus (intro w hSw; (try dsimp only at hSw); go_simp; first | done | with_reducible rfl)
  try simp only [Act.put, List.setIfInBounds_toArray, List.set_cons_zero, List.set_cons_succ]
  refine wpAnyH_take (i := 6) (oi := ⟨some 10, _, _, _, _, _⟩) (v := ?_) rfl (by kernel_rfl) (by kernel_rfl) (by kernel_rfl) (fun _ _ _ h => h) (Or.inl ⟨by rfl, ?_⟩) (by assumption) ?_
  rotate_left
  focus (intro w hSw; (try dsimp only at hSw); go_simp; first | done | with_reducible rfl)
  try simp only [Act.put, List.setIfInBounds_toArray, List.set_cons_zero, List.set_cons_succ]
  refine wpAnyH_take (i := 7) (oi := ⟨some 11, _, _, _, _, _⟩) (v := ?_) rfl (by kernel_rfl) (by kernel_rfl) (by kernel_rfl) (fun _ _ _ h => h) (Or.inl ⟨by rfl, ?_⟩) (by assumption) ?_
  rotate_left
  focus (intro w hSw; (try dsimp only at hSw); go_simp; first | done | with_reducible rfl)
  try simp only [Act.put, List.setIfInBounds_toArray, List.set_cons_zero, List.set_cons_succ]
  refine wpAnyH_take (i := 8) (oi := ⟨some 12, _, _, _, _, _⟩) (v := ?_) rfl (by kernel_rfl) (by kernel_rfl) (by kernel_rfl) (fun _ _ _ h => h) (Or.inl ⟨by rfl, ?_⟩) (by assumption) ?_
  rotate_left
  focus (intro w hSw; (try dsimp only at hSw); go_simp; first | done | with_reducible rfl)
  try simp only [Act.put, List.setIfInBounds_toArray, List.set_cons_zero, List.set_cons_succ]
  refine wpAnyH_take (i := 9) (oi := ⟨some 13, _, _, _, _, _⟩) (v := ?_) rfl (by kernel_rfl) (by kernel_rfl) (by kernel_rfl) (fun _ _ _ h => h) (Or.inl ⟨by rfl, ?_⟩) (by assumption) ?_
  rotate_left
  focus (intro w hSw; (try dsimp only at hSw); have hl := (HG.out.below hSw.1.out).look (z : Int) hz; rw [hgj] at hl; go_simp; first | done | with_reducible rfl)
  try simp only [Act.put, List.setIfInBounds_toArray, List.set_cons_zero, List.set_cons_succ]
  refine wpAnyH_take (i := 10) (oi := ⟨some 14, _, _, _, _, _⟩) (v := ?_) rfl (by kernel_rfl) (by kernel_rfl) (by kernel_rfl) (fun _ _ _ h => h) (Or.inl ⟨by rfl, ?_⟩) (by assumption) ?_
  rotate_left
  focus (intro w hSw; (try dsimp only at hSw); go_simp; first | done | with_reducible rfl)
  try simp only [Act.put, List.setIfInBounds_toArray, List.set_cons_zero, List.set_cons_succ]
  refine wpAnyH_take (i := 11) (oi := ⟨some 15, _, _, _, _, _⟩) (v := ?_) rfl (by kernel_rfl) (by kernel_rfl) (by kernel_rfl) (fun _ _ _ h => h) (Or.inl ⟨by rfl, ?_⟩) (by assumption) ?_
  rotate_left
  focus (intro w hSw; (try dsimp only at hSw); go_simp; first | done | with_reducible rfl)
  try simp only [Act.put, List.setIfInBounds_toArray, List.set_cons_zero, List.set_cons_succ]
  refine wpAnyH_take (i := 12) (oi := ⟨some 16, _, _, _, _, _⟩) (v := ?_) rfl (by kernel_rfl) (by kernel_rfl) (by kernel_rfl) (fun _ _ _ h => h) (Or.inl ⟨by rfl, ?_⟩) (by assumption) ?_
  rotate_left
  focus (intro w hSw; (try dsimp only at hSw); go_simp; first | done | with_reducible rfl)
  try simp only [Act.put, List.setIfInBounds_toArray, List.set_cons_zero, List.set_cons_succ]
  refine wpAnyH_ready (rs := [13]) (by kernel_rfl) (by simp) ?_
  refine AllReadyH.cons (o := ⟨none, _, _, _, _, _⟩) rfl (fun K hK => ?_) AllReadyH.nil
  go_simp
  refine hK.out _ _ (by exact ⟨Lib.hid (below_alloc w _).drew, keep_cell (below_alloc w _).drew Q0.out, keep_cell (below_alloc w _).drew B6.out, keep_cell (below_alloc w _).drew B8.out, keep_cell (below_alloc w _).drew NJ.out⟩) (fun hNew => ?_)
  clear hK K
  have hHeld := hNew
  try simp only [Act.put, List.setIfInBounds_toArray, List.set_cons_zero, List.set_cons_succ]
  refine wpAnyH_done (by kernel_rfl) ?_ _
  go_wp2
  exact bodyPost_ret (v := tv 1 ⟨#[]⟩ n 0 (.slice none 0 0)) (by simp [results, Tryd.results72, go_sem]) rfl ⟨rfl, (below_alloc w _).drew⟩
end Go.Proofs.YtncebhddcokkoaaDoor
/- A type is told: what is kept, and the terms that are being made. -/
namespace Go.Proofs.YtncebhddcokkoaaDoor
open Go.RowKit Go.Maps
set_option linter.unusedSimpArgs false
set_option linter.unusedVariables false
/-- Blocks of terms that were made. -/
def Tx (N : Nat) (c : Cfg) (M : Nat) (w : World) (b : Nat) : Prop := N ≤ b ∧ b ≠ c.B ∧ b ≠ M ∧ ∃ cs fr, w.heap[b]? = some (.cells cs 36 fr)
theorem IsX.kpM {N M : Nat} {c : Cfg} {w w' : World} {d : Nat} {v : Value} {t : Tm} (h : IsX (Tx N c M w) w d v t) (k : KpM c M w w') : IsX (Tx N c M w') w' d v t :=
  h.move fun b hX hl => by
    obtain ⟨h1, h2, h3, cs, fr, hb⟩ := hX
    have := k.kept hb h2 h3 (by decide)
    exact ⟨⟨h1, h2, h3, cs, fr, this⟩, by rw [this, hb]⟩
theorem find_stA {X : Nat → Prop} {c : Cfg} {A : Abs} {w : World} (h : StA X c A w) {i : Nat} (hi : i < A.l.length) :
    Calls Tryd.prog 55 #[.pointer (some ⟨c.B, 0, none⟩), .int .i64 i] w fun e w' => e = .returned (.int .i64 (A.r i : Nat)) ∧ StA X c A w' ∧ Kp c w w' := by
  obtain ⟨v, L, rk, h1, h2, h3, h5⟩ := h
  refine (find_any c rk v L A w i h1 h2 (by rw [← h2.len]; exact hi)).mono ?_
  rintro e w' ⟨rfl, L', k1, k2, k3, k4, _⟩
  refine ⟨rfl, ⟨v, L', rk, k1, k2, h3.same k3, fun x hx hne g o n cc e => ?_⟩, k4⟩
  obtain ⟨i, hi⟩ := List.getElem?_of_mem hx
  obtain ⟨y, b, hy, rfl⟩ := k3.back hi
  exact h5 y (List.mem_of_getElem? hy) hne g o n cc e
/-- A row of terms with these in it. -/
structure RowT (N : Nat) (c : Cfg) (M : Nat) (w : World) (sv : Value) (l : List T5) : Prop where
  own : w.ownsRow N 36 5 sv l.length (flatC l)
theorem RowT.blk {N : Nat} {c : Cfg} {M : Nat} {w : World} {sv : Value} {l : List T5} (h : RowT N c M w sv l) : ∀ g, sv.ownBlock = some g → N ≤ g ∧ ∃ cs, w.heap[g]? = some (.cells cs 36 (0, 0)) := by
  intro g hg
  rcases h.own.2 with ⟨rfl, h0⟩ | ⟨g', cap, cur, rfl, h3, h4, _⟩
  · cases hg
  · injection hg with hg
    subst hg
    exact ⟨h3, cur, h4⟩
theorem RowT.kpM {N : Nat} {c : Cfg} {M : Nat} {w w' : World} {sv : Value} {l : List T5} (h : RowT N c M w sv l) (k : KpM c M w w') (hB : c.B < N) (hM : M < N) : RowT N c M w' sv l := by
  refine ⟨own_kept h.own fun g x hg hx => ?_⟩
  obtain ⟨h1, cs, h2⟩ := h.blk g hg
  rw [h2] at hx
  cases hx
  exact k.kept h2 (by omega) (by omega) (by decide)
theorem RowT.shape {N : Nat} {c : Cfg} {M : Nat} {w : World} {sv : Value} {l : List T5} (h : RowT N c M w sv l) : ∃ q cc, sv = .slice q l.length cc := by
  rcases h.own.2 with ⟨rfl, h0⟩ | ⟨g', cap, cur, rfl, _⟩
  · exact ⟨none, 0, by rw [h0]⟩
  · exact ⟨_, _, rfl⟩
/-- What of the row is these terms. -/
def Dn (N : Nat) (c : Cfg) (M : Nat) (w : World) (sv : Value) (l : List T5) (done : List Tm) : Prop :=
  l.length = done.length ∧ ∀ (i : Nat) (x : Tm), done[i]? = some x → ∃ t, l[i]? = some t ∧ ∀ D, cnt2 x ≤ D → IsX (fun b => Tx N c M w b ∧ some b ≠ sv.ownBlock) w D (t5v t) x
theorem Dn.nil (N : Nat) (c : Cfg) (M : Nat) (w : World) : Dn N c M w (.slice none 0 0) [] [] := ⟨rfl, fun i x h => by simp at h⟩
theorem Dn.kpM {N : Nat} {c : Cfg} {M : Nat} {w w' : World} {sv : Value} {l : List T5} {done : List Tm} (h : Dn N c M w sv l done) (k : KpM c M w w') : Dn N c M w' sv l done := by
  refine ⟨h.1, fun i x hx => ?_⟩
  obtain ⟨t, h1, h2⟩ := h.2 i x hx
  refine ⟨t, h1, fun D hD => (h2 D hD).move fun b hX hl => ?_⟩
  obtain ⟨⟨h1, h2, h3, cs, fr, hb⟩, h4⟩ := hX
  have := k.kept hb h2 h3 (by decide)
  exact ⟨⟨⟨h1, h2, h3, cs, fr, this⟩, h4⟩, by rw [this, hb]⟩
/-- A term more: it was made behind W, where the row was already. -/
theorem RowT.next {N : Nat} {c : Cfg} {M : Nat} {W w1 : World} {sv : Value} {l : List T5} {k : Int} {p n : ByteArray} {I : Int} {q : Option Addr} {ln cc : Nat} (h : RowT N c M W sv l) (hk : KpM c M W w1) (hB : c.B < N) (hM : M < N) (hN : N ≤ W.heap.size) (hl : l.length ≤ 100000) :
    ∃ sv' w4, (Builtin.append_ #[34, 34] 34 #[sv, .slice (some ⟨w1.heap.size, 0, none⟩) 1 1]).run Tryd.prog (w1.alloc (.cells #[.int .i64 k, .string p, .string n, .int .i64 I, .slice q ln cc] 36)) = .ok sv' w4 ∧ RowT N c M w4 sv' (l ++ [(k, p, n, I, .slice q ln cc)]) ∧
      (w1.alloc (.cells #[.int .i64 k, .string p, .string n, .int .i64 I, .slice q ln cc] 36)).grownBy w4 sv.ownBlock ∧
      (∀ done x, Dn N c M W sv l done → (∀ D, cnt2 x ≤ D → IsX (Tx W.heap.size c M w1) w1 D (tv k p n I (.slice q ln cc)) x) → Dn N c M w4 sv' (l ++ [(k, p, n, I, .slice q ln cc)]) (done ++ [x])) := by
  have h1 := h.kpM hk hB hM
  have hnew := hb_new w1 (.cells #[.int .i64 k, .string p, .string n, .int .i64 I, .slice q ln cc] 36)
  have hs1 := hk.size
  obtain ⟨sv', w4, hrun, ho, hg, hblk⟩ := append_t (w1.alloc (.cells #[.int .i64 k, .string p, .string n, .int .i64 I, .slice q ln cc] 36)) N sv l (h1.own.alloc _) w1.heap.size 0 (k := k) (p := p) (n := n) (N := I) (q := q) (ln := ln) (c := cc)
    ⟨hb_at hnew 0 rfl, hb_at hnew 1 rfl, hb_at hnew 2 rfl, hb_at hnew 3 rfl, hb_at hnew 4 rfl⟩ 1 hl (by simp; omega)
  have hsa : (w1.alloc (.cells #[.int .i64 k, .string p, .string n, .int .i64 I, .slice q ln cc] 36)).heap.size = w1.heap.size + 1 := by simp
  refine ⟨sv', w4, hrun, ⟨ho⟩, hg, fun done x hd hx => ?_⟩
  have hlt : ∀ g, sv.ownBlock = some g → g < W.heap.size := fun g hg => by
    obtain ⟨_, cs, h2⟩ := h.blk g hg
    exact hb_lt h2
  have hstep : ∀ b, b < w1.heap.size → some b ≠ sv.ownBlock → w4.heap[b]? = w1.heap[b]? := fun b h1 h2 => by
    rw [hg.block b (by rw [hsa]; omega) h2, Below.heap_alloc w1 _ b h1]
  have hd1 := hd.kpM hk
  refine ⟨by rw [List.length_append, List.length_append, hd.1]; rfl, fun i y hy => ?_⟩
  have hown : ∀ b, b < w1.heap.size → some b ≠ sv.ownBlock → some b ≠ sv'.ownBlock := fun b h1 h2 e => by
    rcases hblk with h | h
    · exact h2 (e.trans h)
    · rw [h] at e; have := Option.some.inj e; omega
  rw [List.getElem?_append] at hy
  split at hy
  · rename_i hi
    obtain ⟨t, e1, e2⟩ := hd1.2 i y hy
    refine ⟨t, by rw [List.getElem?_append_left (by rw [hd.1]; omega)]; exact e1, fun D hD => (e2 D hD).move fun b hX hl2 => ?_⟩
    obtain ⟨⟨g1, g2, g3, cs, fr, hb⟩, g4⟩ := hX
    have e := hstep b hl2 g4
    exact ⟨⟨⟨g1, g2, g3, cs, fr, e.trans hb⟩, hown b hl2 g4⟩, e⟩
  · rename_i hi
    have hi2 : i - done.length = 0 := by
      have := (List.getElem?_eq_some_iff.1 hy).1
      simp at this
      omega
    rw [hi2] at hy
    obtain rfl : x = y := by simpa using hy
    have hil : i = l.length := by rw [hd.1]; omega
    refine ⟨_, by rw [hil]; exact List.getElem?_concat_length, fun D hD => (hx D hD).move fun b hX hl2 => ?_⟩
    obtain ⟨g1, g2, g3, cs, fr, hb⟩ := hX
    have g4 : some b ≠ sv.ownBlock := fun e => by have := hlt b e.symm; omega
    have e := hstep b hl2 g4
    exact ⟨⟨⟨by omega, g2, g3, cs, fr, e.trans hb⟩, hown b hl2 g4⟩, e⟩
/-- All made. -/
theorem RowT.kids {N N' : Nat} {c : Cfg} {M : Nat} {w : World} {sv : Value} {l : List T5} {ts : List Tm} (h : RowT N c M w sv l) (hd : Dn N c M w sv l ts) (hN : N' ≤ N) (hB : c.B < N) (hM : M < N) (hl : ts.length ≤ maxLen) {D : Nat} (hD : ∀ x ∈ ts, cnt2 x ≤ D) : KidsX (Tx N' c M w) w D sv ts := by
  obtain ⟨hfl, ⟨rfl, h0⟩ | ⟨g, cap, cur, rfl, hbg, hh, _, _, _, htk⟩⟩ := h.own
  · have : ts = [] := List.eq_nil_of_length_eq_zero (by have := hd.1; omega)
    subst this
    exact ⟨none, 0, rfl, hl, fun i x h => by simp at h⟩
  · refine ⟨some ⟨g, 0, none⟩, cap, by rw [hd.1], hl, fun i x hx => ?_⟩
    obtain ⟨t, h1, h2⟩ := hd.2 i x hx
    have hi : i < l.length := (List.getElem?_eq_some_iff.1 h1).1
    have hcell : ∀ j (hj : j < 5), w.cell? ⟨g, 0 + i * 5 + j, none⟩ = (flatC l)[i * 5 + j]? := fun j hj => by
      rw [hb_cell hh, ← htk, List.getElem?_take, if_pos (by omega), Array.getElem?_toList, Nat.zero_add]
    have hflat : ∀ j (hj : j < 5), (flatC l)[i * 5 + j]? = [Value.int .i64 t.1, .string t.2.1, .string t.2.2.1, .int .i64 t.2.2.2.1, t.2.2.2.2][j]? := fun j hj => by
      have e : l = l.take i ++ t :: l.drop (i + 1) := by
        have h4 := List.getElem?_eq_some_iff.1 h1
        rw [← h4.2, List.getElem_cons_drop, List.take_append_drop]
      rw [e]
      have e2 : flatC (l.take i ++ t :: l.drop (i + 1)) = flatC (l.take i) ++ ([Value.int .i64 t.1, .string t.2.1, .string t.2.2.1, .int .i64 t.2.2.2.1, t.2.2.2.2] ++ flatC (l.drop (i + 1))) := by simp [flatC]
      have e3 : (flatC (l.take i)).length = i * 5 := by rw [flatC_length, List.length_take]; omega
      rw [e2, List.getElem?_append_right (by omega), e3, List.getElem?_append_left (by simp; omega)]
      congr 1
      omega
    have c0 := (hcell 0 (by omega)).trans (hflat 0 (by omega))
    have c1 := (hcell 1 (by omega)).trans (hflat 1 (by omega))
    have c2 := (hcell 2 (by omega)).trans (hflat 2 (by omega))
    have c3 := (hcell 3 (by omega)).trans (hflat 3 (by omega))
    have c4 := (hcell 4 (by omega)).trans (hflat 4 (by omega))
    exact ⟨g, 0, t.1, t.2.1, t.2.2.1, t.2.2.2.1, t.2.2.2.2, rfl, ⟨by omega, by omega, by omega, cur, (0, 0), hh⟩, ⟨c0, c1, c2, c3, c4⟩, (h2 D (hD x (List.mem_of_getElem? hx))).move fun b hX hl => ⟨⟨by have := hX.1.1; omega, hX.1.2⟩, rfl⟩⟩
end Go.Proofs.YtncebhddcokkoaaDoor
