/- Texts in a row: Qb Qc Qd. -/
import Derived.Test.YtncebhddcokkoaaDoorZU3
import Derived.Test.YtncebhddcokkoaaDoorZU11
import Derived.Test.YtncebhddcokkoaaDoorZU14
import Derived.Test.YtncebhddcokkoaaDoorZU17
import Derived.Deep.DeepCutAuto
import Derived.StillTailTactics
import Derived.Test.YtncebhddcokkoaaDoorZU9
/- The document's solver in memory. -/
namespace Go.Proofs.YtncebhddcokkoaaDoor
open Go.RowKit
set_option linter.unusedSimpArgs false
set_option linter.unusedVariables false
/-- All stays but one block. -/
structure Gk (B0 g : Nat) (w w' : World) : Prop where
  below : Below B0 w w'
  size : w.heap.size ≤ w'.heap.size
  block : ∀ (k : Nat) (x : Obj), w.heap[k]? = some x → k ≠ g → w'.heap[k]? = some x
theorem Gk.refl (B0 g : Nat) (w : World) : Gk B0 g w w := ⟨Below.refl _ _, Nat.le_refl _, fun _ _ h _ => h⟩
theorem Gk.trans {B0 g : Nat} {w w1 w2 : World} (h : Gk B0 g w w1) (k : Gk B0 g w1 w2) : Gk B0 g w w2 :=
  ⟨h.below.trans k.below, Nat.le_trans h.size k.size, fun b x h1 h2 => k.block b x (h.block b x h1 h2) h2⟩
theorem Gk.of_below {B0 g : Nat} {w w' : World} (hb : B0 ≤ w.heap.size) (h : Below w.heap.size w w') : Gk B0 g w w' :=
  ⟨h.mono hb, h.size, fun b x h1 _ => by rw [h.block b (hb_lt h1)]; exact h1⟩
theorem Gk.cell {B0 g : Nat} {w w' : World} (h : Gk B0 g w w') {b o : Nat} {v : Value} (hc : w.cell? ⟨b, o, none⟩ = some v) (hb : b ≠ g) : w'.cell? ⟨b, o, none⟩ = some v := by
  have hl := block_lt_of_cell hc
  have h1 : w.heap[b]? = some (w.heap[b]'hl) := Array.getElem?_eq_getElem hl
  have h2 := h.block b _ h1 hb
  unfold World.cell? at hc ⊢
  simp only [h1] at hc
  simp only [h2]
  exact hc
theorem IsX.gk {B0 g : Nat} {w w' : World} {d : Nat} {v : Value} {t : Tm} (h : IsX (fun b => b < B0) w d v t) (k : Gk B0 g w w') : IsX (fun b => b < B0) w' d v t :=
  h.move fun b hb _ => ⟨hb, k.below.block b hb⟩
/-- Names in memory, apart from a block. -/
def NmR (g : Nat) (w : World) (v : Value) (ns : List ByteArray) : Prop := ∃ q c, v = .slice q ns.length c ∧ ∀ i s, ns[i]? = some s → ∃ gn o, q = some ⟨gn, o, none⟩ ∧ gn ≠ g ∧ w.cell? ⟨gn, o + i, none⟩ = some (.string s)
theorem NmR.o {g : Nat} {w : World} {v : Value} {ns : List ByteArray} (h : NmR g w v ns) : SRowO w v ns := by
  obtain ⟨q, c, h1, h2⟩ := h
  exact ⟨q, c, h1, fun i s hs => by obtain ⟨gn, o, e, _, hc⟩ := h2 i s hs; exact ⟨gn, o, e, hc⟩⟩
theorem NmR.gk {B0 g : Nat} {w w' : World} {v : Value} {ns : List ByteArray} (h : NmR g w v ns) (k : Gk B0 g w w') : NmR g w' v ns := by
  obtain ⟨q, c, h1, h2⟩ := h
  exact ⟨q, c, h1, fun i s hs => by obtain ⟨gn, o, e, hn, hc⟩ := h2 i s hs; exact ⟨gn, o, e, hn, k.cell hc hn⟩⟩
/-- The document's solver. -/
structure RSt (B0 B g D : Nat) (ns : List ByteArray) (S : RS) (nv : Value) (cg : Nat) (w : World) : Prop where
  hB : B0 ≤ B
  hg : B0 ≤ g
  ne : g ≠ B
  ln : ns.length ≤ 100000
  nm : NmR g w nv ns
  blk : w.heap[B]? = some (.cells #[nv, .slice (some ⟨g, 0, none⟩) ns.length cg] 76 (0, 0))
  row : ∃ ts : List T5, ts.length = ns.length ∧ w.heap[g]? = some (.cells (flatC ts).toArray 36 (0, 0)) ∧ ∀ n ∈ ns, ∃ t, ts[ixO ns n]? = some t ∧ ((S n = none ∧ t.1 = 0) ∨ ∃ x, S n = some x ∧ IsX (fun b => b < B0) w D (t5v t) x ∧ t.1 ≠ 0)
theorem RSt.lt {B0 B g D : Nat} {ns : List ByteArray} {S : RS} {nv : Value} {cg : Nat} {w : World} (h : RSt B0 B g D ns S nv cg w) : B < w.heap.size := hb_lt h.blk
theorem RSt.b0 {B0 B g D : Nat} {ns : List ByteArray} {S : RS} {nv : Value} {cg : Nat} {w : World} (h : RSt B0 B g D ns S nv cg w) : B0 ≤ w.heap.size := Nat.le_trans h.hB (Nat.le_of_lt h.lt)
/-- New blocks. -/
theorem RSt.below {B0 B g D : Nat} {ns : List ByteArray} {S : RS} {nv : Value} {cg : Nat} {w w' : World} (h : RSt B0 B g D ns S nv cg w) (k : Below w.heap.size w w') : RSt B0 B g D ns S nv cg w' := by
  obtain ⟨ts, h1, h2, h3⟩ := h.row
  refine ⟨h.hB, h.hg, h.ne, h.ln, h.nm.gk (Gk.of_below h.b0 k), hb_below h.blk k h.lt, ts, h1, hb_below h2 k (hb_lt h2), fun n hn => ?_⟩
  obtain ⟨t, e, h4⟩ := h3 n hn
  refine ⟨t, e, ?_⟩
  rcases h4 with h4 | ⟨x, h5, h6, h7⟩
  · exact .inl h4
  · exact .inr ⟨x, h5, h6.below k, h7⟩
theorem flatC_row {ts : List T5} {i : Nat} {t : T5} (h : ts[i]? = some t) : ∀ j u, [Value.int .i64 t.1, .string t.2.1, .string t.2.2.1, .int .i64 t.2.2.2.1, t.2.2.2.2][j]? = some u → (flatC ts)[i * 5 + j]? = some u := by
  induction ts generalizing i with
  | nil => simp at h
  | cons y ts ih =>
    intro j u hu
    have e : flatC (y :: ts) = [.int .i64 y.1, .string y.2.1, .string y.2.2.1, .int .i64 y.2.2.2.1, y.2.2.2.2] ++ flatC ts := by simp [flatC]
    rw [e]
    match i, h with
    | 0, h =>
      obtain rfl := Option.some.inj h
      have hj := (List.getElem?_eq_some_iff.1 hu).1
      rw [Nat.zero_mul, Nat.zero_add, List.getElem?_append_left hj]
      exact hu
    | i + 1, h =>
      rw [List.getElem?_append_right (by simp; omega)]
      have := ih (i := i) h j u hu
      rw [← this]
      congr 1
      simp
      omega
theorem flatC_set {ts : List T5} {i : Nat} {t : T5} (h : i < ts.length) : ((((((flatC ts).toArray.setIfInBounds (i * 5) (.int .i64 t.1)).setIfInBounds (i * 5 + 1) (.string t.2.1)).setIfInBounds (i * 5 + 2) (.string t.2.2.1)).setIfInBounds (i * 5 + 3) (.int .i64 t.2.2.2.1)).setIfInBounds (i * 5 + 4) t.2.2.2.2) = (flatC (ts.set i t)).toArray := by
  induction ts generalizing i with
  | nil => simp at h
  | cons y ts ih =>
    have e : ∀ (y : T5) (ts : List T5), flatC (y :: ts) = .int .i64 y.1 :: .string y.2.1 :: .string y.2.2.1 :: .int .i64 y.2.2.2.1 :: y.2.2.2.2 :: flatC ts := fun y ts => by simp [flatC]
    rw [e]
    match i, h with
    | 0, h => simp [e]
    | i + 1, h =>
      have h2 := ih (i := i) (by simpa using h)
      rw [List.set_cons_succ, e]
      simp only [List.setIfInBounds_toArray] at h2 ⊢
      have h3 := congrArg Array.toList h2
      simp only at h3
      congr 1
      rw [← h3]
      have a0 : (i + 1) * 5 = i * 5 + 5 := by omega
      rw [a0]
      rfl
/-- What a name has become. -/
theorem RSt.is {B0 B g D : Nat} {ns : List ByteArray} {S : RS} {nv : Value} {cg : Nat} {w : World} (h : RSt B0 B g D ns S nv cg w) {n : ByteArray} (hn : n ∈ ns) : ∃ k p m N s, TAt w g (ixO ns n * 5) k p m N s ∧ ixO ns n < ns.length ∧ ((S n = none ∧ k = 0) ∨ ∃ x, S n = some x ∧ IsX (fun b => b < B0) w D (tv k p m N s) x ∧ k ≠ 0) := by
  obtain ⟨ts, h1, h2, h3⟩ := h.row
  obtain ⟨⟨k, p, m, N, s⟩, e, h4⟩ := h3 n hn
  have key := flatC_row e
  refine ⟨k, p, m, N, s, ⟨?_, ?_, ?_, ?_, ?_⟩, by rw [← h1]; exact (List.getElem?_eq_some_iff.1 e).1, h4⟩
  · rw [hb_cell h2]; simpa using key 0 _ rfl
  · rw [hb_cell h2]; simpa using key 1 _ rfl
  · rw [hb_cell h2]; simpa using key 2 _ rfl
  · rw [hb_cell h2]; simpa using key 3 _ rfl
  · rw [hb_cell h2]; simpa using key 4 _ rfl
theorem ixO_lt {n : ByteArray} {ns : List ByteArray} (h : n ∈ ns) : ixO ns n < ns.length := (List.getElem?_eq_some_iff.1 (ixO_at h)).1
/-- A name becomes a type. -/
theorem RSt.put {B0 B g D : Nat} {ns : List ByteArray} {S : RS} {nv : Value} {cg : Nat} {w : World} (h : RSt B0 B g D ns S nv cg w) {n : ByteArray} (hn : n ∈ ns) {k N : Int} {p m : ByteArray} {s : Value} {x : Tm} (hx : IsX (fun b => b < B0) w D (tv k p m N s) x) (hk : k ≠ 0) :
    RSt B0 B g D ns (S.put n x) nv cg (((((w.setCell ⟨g, ixO ns n * 5, none⟩ (.int .i64 k)).setCell ⟨g, ixO ns n * 5 + 1, none⟩ (.string p)).setCell ⟨g, ixO ns n * 5 + 2, none⟩ (.string m)).setCell ⟨g, ixO ns n * 5 + 3, none⟩ (.int .i64 N)).setCell ⟨g, ixO ns n * 5 + 4, none⟩ s) ∧
    Gk B0 g w (((((w.setCell ⟨g, ixO ns n * 5, none⟩ (.int .i64 k)).setCell ⟨g, ixO ns n * 5 + 1, none⟩ (.string p)).setCell ⟨g, ixO ns n * 5 + 2, none⟩ (.string m)).setCell ⟨g, ixO ns n * 5 + 3, none⟩ (.int .i64 N)).setCell ⟨g, ixO ns n * 5 + 4, none⟩ s) := by
  obtain ⟨ts, h1, h2, h3⟩ := h.row
  have hlt : ixO ns n < ts.length := by rw [h1]; exact ixO_lt hn
  have hK : Gk B0 g w (((((w.setCell ⟨g, ixO ns n * 5, none⟩ (.int .i64 k)).setCell ⟨g, ixO ns n * 5 + 1, none⟩ (.string p)).setCell ⟨g, ixO ns n * 5 + 2, none⟩ (.string m)).setCell ⟨g, ixO ns n * 5 + 3, none⟩ (.int .i64 N)).setCell ⟨g, ixO ns n * 5 + 4, none⟩ s) :=
    ⟨(((((Below.refl _ _).setCell h.hg _).setCell h.hg _).setCell h.hg _).setCell h.hg _).setCell h.hg _, by simp [World.setCell], fun b z h4 h5 => hb_set_other (hb_set_other (hb_set_other (hb_set_other (hb_set_other h4 _ h5) _ h5) _ h5) _ h5) _ h5⟩
  refine ⟨⟨h.hB, h.hg, h.ne, h.ln, h.nm.gk hK, hK.block _ _ h.blk (fun e => h.ne e.symm), ts.set (ixO ns n) (k, p, m, N, s), by rw [List.length_set]; exact h1, ?_, fun a ha => ?_⟩, hK⟩
  · rw [← flatC_set (t := (k, p, m, N, s)) hlt]
    exact hb_set_same (hb_set_same (hb_set_same (hb_set_same (hb_set_same h2 _ _) _ _) _ _) _ _) _ _
  · by_cases e : a = n
    · subst e
      refine ⟨(k, p, m, N, s), by rw [List.getElem?_set_self hlt], .inr ⟨x, if_pos rfl, hx.gk hK, hk⟩⟩
    · obtain ⟨t, e1, h4⟩ := h3 a ha
      have hne : ixO ns n ≠ ixO ns a := fun e2 => e (ixO_inj hn ha e2).symm
      refine ⟨t, by rw [List.getElem?_set_ne hne]; exact e1, ?_⟩
      have e3 : S.put n x a = S a := if_neg e
      rw [e3]
      rcases h4 with h4 | ⟨y, h5, h6, h7⟩
      · exact .inl h4
      · exact .inr ⟨y, h5, h6.gk hK, h7⟩
end Go.Proofs.YtncebhddcokkoaaDoor
/- The document's solver: a name's place, what a type is at its top. -/
namespace Go.Proofs.YtncebhddcokkoaaDoor
open Go.RowKit
set_option linter.unusedSimpArgs false
set_option linter.unusedVariables false
open Classical in
/-- A name's place, or none. -/
noncomputable def plc (ns : List ByteArray) (s : ByteArray) : Int := if s ∈ ns then (ixO ns s : Int) else -1
theorem ixO_first {s : ByteArray} : ∀ {ns : List ByteArray} {j : Nat}, ns[j]? = some s → (∀ x ∈ ns.take j, x ≠ s) → ixO ns s = j
  | [], j, h, _ => by simp at h
  | a :: l, 0, h, _ => by
    obtain rfl := Option.some.inj h
    unfold ixO; rw [if_pos rfl]
  | a :: l, j + 1, h, hn => by
    have h1 : a ≠ s := hn a (by simp)
    unfold ixO
    rw [if_neg h1, ixO_first (ns := l) (j := j) (by simpa using h) (fun x hx => hn x (by simp [hx]))]
theorem plc_first {s : ByteArray} {ns : List ByteArray} {j : Nat} (h : ns[j]? = some s) (hn : ∀ x ∈ ns.take j, x ≠ s) : plc ns s = (j : Int) := by
  unfold plc
  rw [if_pos (List.mem_of_getElem? h), ixO_first h hn]
theorem plc_none {s : ByteArray} {ns : List ByteArray} (hn : ∀ x ∈ ns, x ≠ s) : plc ns s = -1 := by
  unfold plc
  rw [if_neg fun h => hn s h rfl]
theorem plc_in {s : ByteArray} {ns : List ByteArray} (h : s ∈ ns) : plc ns s = (ixO ns s : Int) := if_pos h
theorem place_any (w : World) (v : Value) (ns : List ByteArray) (s : ByteArray) (h : SRowO w v ns) (hl : ns.length ≤ 100000) : Calls Tryd.prog 87 #[v, .string s] w (fun e w' => e = .returned (.int .i64 (plc ns s)) ∧ Below w.heap.size w w') := by
  obtain ⟨q, c, rfl, hc⟩ := h
  have HC := Lib.hid hc
  clear hc
  go_enter Tryd.func87, Tryd.ntmps87
  go_wp2
  go_loopw [5] (fun t wr => ∃ j : Nat, j ≤ ns.length ∧ t = .int .i64 j ∧ Below w.heap.size w wr ∧ (∀ x ∈ ns.take j, x ≠ s)) (fun t _ => ns.length - (intOf t).toNat)
  case atStart => exact ⟨0, Nat.zero_le _, rfl, Below.refl _ _, fun x hx => by simp at hx⟩
  case round =>
    obtain ⟨j, hj, rfl, hb, hno⟩ := hrel
    have HB := Lib.hid hb
    have HNO := Lib.hid hno
    clear hno
    by_cases hlt : j < ns.length
    · have hse := List.getElem?_eq_getElem hlt
      have HT : RowKit.Hid (ns.take (j + 1) = ns.take j ++ [ns[j]]) := Lib.hid (List.take_succ_eq_append_getElem hlt)
      obtain ⟨g, o, rfl, hc1⟩ := HC.out j _ hse
      have hc2 := keep_cell hb hc1
      have HSE := Lib.hid hse
      clear hse hc1 hb
      generalize ns[j] = x at *
      have hlt2 : (j : Int) < (ns.length : Int) := by omega
      by_cases hx : x = s
      · have he : (x.toList == s.toList) = true := by rw [hx]; simp
        have HX := Lib.hid hx
        clear hx
        go_wp2
        go_ret
        exact ⟨ret_int (plc_first (by rw [← HX.out]; exact HSE.out) HNO.out).symm, HB.out⟩
      · have he : (x.toList == s.toList) = false := by
          rw [beq_eq_false_iff_ne]
          intro e
          exact hx (toList_inj e)
        have HX := Lib.hid hx
        clear hx
        go_wp2
        refine ⟨⟨j + 1, by omega, by go_num, HB.out, fun y hy => ?_⟩, by simp [intOf]; omega⟩
        rw [HT.out] at hy
        rcases List.mem_append.1 hy with hy | hy
        · exact HNO.out y hy
        · cases List.mem_singleton.1 hy; exact HX.out
    · obtain rfl : j = ns.length := by omega
      clear hb
      go_wp2
      go_ret
      refine ⟨ret_int (plc_none fun x hx => HNO.out x ?_).symm, HB.out⟩
      rw [List.take_length]; exact hx
theorem box_cells {w : World} {b : Nat} {k N : Int} {p n : ByteArray} {s : Value} (h : w.heap[b]? = some (.cells #[.int .i64 k, .string p, .string n, .int .i64 N, s] 36 (0, 0))) :
    w.cell? ⟨b, 0, none⟩ = some (.int .i64 k) ∧ w.cell? ⟨b, 1, none⟩ = some (.string p) ∧ w.cell? ⟨b, 2, none⟩ = some (.string n) ∧ w.cell? ⟨b, 3, none⟩ = some (.int .i64 N) ∧ w.cell? ⟨b, 4, none⟩ = some s :=
  ⟨hb_at h 0 rfl, hb_at h 1 rfl, hb_at h 2 rfl, hb_at h 3 rfl, hb_at h 4 rfl⟩
/-- What a type is at its top. -/
def LookQ (B0 D : Nat) (u : Tm) (w : World) (e : Ending) (w' : World) : Prop := ∃ k p n N q l c, e = .returned (tv k p n N (.slice q l c)) ∧ IsX (fun b => b < B0) w' D (tv k p n N (.slice q l c)) u ∧ Below w.heap.size w w'
/-- The loop of it. -/
structure LkI (B0 D : Nat) (S : RS) (ns : List ByteArray) (u : Tm) (w wr : World) (m : Nat) : Prop where
  ex : ∃ k p n N q l c t, wr.heap[w.heap.size]? = some (.cells #[.int .i64 k, .string p, .string n, .int .i64 N, .slice q l c] 36 (0, 0)) ∧ IsX (fun b => b < B0) wr D (tv k p n N (.slice q l c)) t ∧ RS.LkN S m t u ∧ Wt ns t
  res : wr.heap[w.heap.size + 1]? = some (.cells #[.int .i64 0, .string ⟨#[]⟩, .string ⟨#[]⟩, .int .i64 0, .slice none 0 0] 36 (0, 0))
  bel : Below w.heap.size w wr
set_option maxRecDepth 100000 in
set_option maxHeartbeats 2000000 in
theorem look_any {B0 B g D : Nat} {ns : List ByteArray} {S : RS} {nv : Value} {cg : Nat} {w : World} (hR : RSt B0 B g D ns S nv cg w) (hI : S.Inv ns (ixO ns)) {v : Value} {t u : Tm} (hv : IsX (fun b => b < B0) w D v t) (ht : Wt ns t) (hu : RS.Look S t u) :
    Calls Tryd.prog 70 #[.pointer (some ⟨B, 0, none⟩), v] w (LookQ B0 D u w) := by
  obtain ⟨k0, p0, n0, N0, q0, l0, c0, rfl⟩ := hv.shape
  obtain ⟨m0, hm0⟩ := hu.num
  have hB : Below w.heap.size w ((w.alloc (.cells #[.int .i64 k0, .string p0, .string n0, .int .i64 N0, .slice q0 l0 c0] 36)).alloc (.cells #[.int .i64 0, .string ⟨#[]⟩, .string ⟨#[]⟩, .int .i64 0, .slice none 0 0] 36)) := below2 w _ _
  have b1 := hb_alloc (hb_new w (.cells #[.int .i64 k0, .string p0, .string n0, .int .i64 N0, .slice q0 l0 c0] 36)) (.cells #[.int .i64 0, .string ⟨#[]⟩, .string ⟨#[]⟩, .int .i64 0, .slice none 0 0] 36)
  have b2 := hb_new (w.alloc (.cells #[.int .i64 k0, .string p0, .string n0, .int .i64 N0, .slice q0 l0 c0] 36)) (.cells #[.int .i64 0, .string ⟨#[]⟩, .string ⟨#[]⟩, .int .i64 0, .slice none 0 0] 36)
  simp only [World.size_alloc] at b2
  have hst : LkI B0 D S ns u w ((w.alloc (.cells #[.int .i64 k0, .string p0, .string n0, .int .i64 N0, .slice q0 l0 c0] 36)).alloc (.cells #[.int .i64 0, .string ⟨#[]⟩, .string ⟨#[]⟩, .int .i64 0, .slice none 0 0] 36)) m0 :=
    ⟨⟨k0, p0, n0, N0, q0, l0, c0, t, b1, hv.below hB, hm0, ht⟩, b2, hB⟩
  have HST := Lib.hid hst
  have HR := Lib.hid hR
  have HI := Lib.hid hI
  have hBl := hR.lt
  clear hv ht hu hm0 hB b1 b2 hst hR hI
  go_enter Tryd.func70, Tryd.ntmps70
  go_wp2
  generalize (w.alloc (.cells #[.int .i64 k0, .string p0, .string n0, .int .i64 N0, .slice q0 l0 c0] 36)).alloc (.cells #[.int .i64 0, .string ⟨#[]⟩, .string ⟨#[]⟩, .int .i64 0, .slice none 0 0] 36) = W0 at *
  go_loopw [] (fun wr => ∃ m, LkI B0 D S ns u w wr m) (fun wr => least fun m => LkI B0 D S ns u w wr m)
  case atStart => exact ⟨_, HST.out⟩
  case round =>
    have hle := least_spec (P := fun m => LkI B0 D S ns u w wr m) hrel
    have hless : ∀ wr' m', m' < (least fun m => LkI B0 D S ns u w wr m) → LkI B0 D S ns u w wr' m' → (∃ m, LkI B0 D S ns u w wr' m) ∧ (least fun m => LkI B0 D S ns u w wr' m) < (least fun m => LkI B0 D S ns u w wr m) := fun wr' m' h1 h2 => ⟨⟨m', h2⟩, Nat.lt_of_le_of_lt (least_le h2) h1⟩
    obtain ⟨m1, hm1⟩ : ∃ m1, m1 = least fun m => LkI B0 D S ns u w wr m := ⟨_, rfl⟩
    rw [← hm1] at hle
    have HM := Lib.hid hm1
    have HLE := Lib.hid hless
    clear hless hrel hm1 HST
    obtain ⟨⟨k, p, n, N, q, l, c, t1, hbx, hx1, hlk, hwt⟩, hres, hbel⟩ := hle
    have HX1 := Lib.hid hx1
    have HRES := Lib.hid hres
    have HBEL := Lib.hid hbel
    have HBX := Lib.hid hbx
    have HWT := Lib.hid hwt
    obtain ⟨x0, x1, x2, x3, x4⟩ := box_cells hbx
    obtain ⟨e0, e1, e2, e3, e4⟩ := box_cells hres
    have f0 := hb_free hres 0
    have f1 := hb_free hres 1
    have f2 := hb_free hres 2
    have f3 := hb_free hres 3
    have f4 := hb_free hres 4
    have hd := hx1.isT
    obtain ⟨k', p', n', N', l', rfl⟩ : ∃ k' p' n' N' l', t1 = .mk k' p' n' N' l' := by cases t1; exact ⟨_, _, _, _, _, rfl⟩
    obtain ⟨d1, k2, p2, n2, N2, s2, l2, _, e5, e6, _⟩ := hd.open
    injection e5 with a1 a2 a3 a4 a5
    subst a1 a2 a3 a4 a5
    cases e6
    rcases hlk.inv rfl with ⟨hk, rfl, rfl⟩ | ⟨rfl, hn, rfl, rfl⟩ | ⟨rfl, c2, j, rfl, hn, hlk2⟩
    · have hk1 : (k == 1) = false := by simpa using hk
      clear hbx hx1 hres hbel hlk hwt hd hk
      go_wp2
      obtain ⟨y1, y2, y3⟩ := box_set (base := w.heap.size) (by omega) HRES.out (.int .i64 k) (.string p) (.string n) (.int .i64 N) (.slice q l c)
      refine bodyPost_ret (v := tv k p n N (.slice q l c)) (by simp [results, Tryd.results70, go_sem, hb_at y1 0 rfl, hb_at y1 1 rfl, hb_at y1 2 rfl, hb_at y1 3 rfl, hb_at y1 4 rfl]) rfl ⟨k, p, n, N, q, l, c, rfl, ?_, ?_⟩
      · exact HX1.out.move fun b hb _ => ⟨hb, y3.block b (by have := HR.out.b0; omega)⟩
      · exact HBEL.out.trans y3
    · have hns := (hwt.var).1
      have HNS := Lib.hid hns
      have HN := Lib.hid hn
      have hRw := HR.out.below hbel
      have HRW := Lib.hid hRw
      have z0 := hb_at hRw.blk 0 rfl
      have HNM := Lib.hid hRw.nm.o
      clear hbx hx1 hres hbel hlk hwt hd hn hns hRw
      go_upto_region 2 with (fail)
      refine wp_region_held_drew (S := (fun w' => RowKit.Hid (Below wr.heap.size wr w') ∧ w'.cell? ⟨B, 0, none⟩ = some (nv) ∧ w'.cell? ⟨w.heap.size, 2, none⟩ = some (.string n))) (by kernel_rfl) (by exact ⟨Lib.hid (below_drewN (Below.refl _ _) 1), z0, x2⟩) (fun hHeld => ?_)
      refine wpAnyH_take (i := 0) (oi := ⟨some 9, _, _, _, _, _⟩) (v := ?_) rfl (by kernel_rfl) (by kernel_rfl) (by kernel_rfl) (fun _ _ _ h => h) (Or.inl ⟨by rfl, ?_⟩) (by assumption) ?_
      rotate_left
      focus (intro w hSw; (try dsimp only at hSw); go_simp; first | done | with_reducible rfl)
      try simp only [Act.put, List.setIfInBounds_toArray, List.set_cons_zero, List.set_cons_succ]
      refine wpAnyH_take (i := 1) (oi := ⟨some 10, _, _, _, _, _⟩) (v := ?_) rfl (by kernel_rfl) (by kernel_rfl) (by kernel_rfl) (fun _ _ _ h => h) (Or.inl ⟨by rfl, ?_⟩) (by assumption) ?_
      rotate_left
      focus (intro w hSw; (try dsimp only at hSw); go_simp; first | done | with_reducible rfl)
      try simp only [Act.put, List.setIfInBounds_toArray, List.set_cons_zero, List.set_cons_succ]
      refine wpAnyH_take (i := 2) (oi := ⟨some 11, _, _, _, _, _⟩) (v := ?_) rfl (by kernel_rfl) (by kernel_rfl) (by kernel_rfl) (fun _ _ _ h => h) (Or.inl ⟨by rfl, ?_⟩) (by assumption) ?_
      rotate_left
      focus (intro w hSw; (try dsimp only at hSw); go_simp; first | done | with_reducible rfl)
      try simp only [Act.put, List.setIfInBounds_toArray, List.set_cons_zero, List.set_cons_succ]
      refine wpAnyH_take (i := 3) (oi := ⟨some 12, _, _, _, _, _⟩) (v := ?_) rfl (by kernel_rfl) (by kernel_rfl) (by kernel_rfl) (fun _ _ _ h => h) (Or.inl ⟨by rfl, ?_⟩) (by assumption) ?_
      rotate_left
      focus (intro w hSw; (try dsimp only at hSw); go_simp; first | done | with_reducible rfl)
      try simp only [Act.put, List.setIfInBounds_toArray, List.set_cons_zero, List.set_cons_succ]
      refine wpAnyH_take (i := 4) (oi := ⟨some 13, _, _, _, _, _⟩) (v := ?_) rfl (by kernel_rfl) (by kernel_rfl) (by kernel_rfl) (fun _ _ _ h => h) (Or.inl ⟨by rfl, ?_⟩) (by assumption) ?_
      rotate_left
      focus (intro w hSw; (try dsimp only at hSw); go_simp; first | done | with_reducible rfl)
      try simp only [Act.put, List.setIfInBounds_toArray, List.set_cons_zero, List.set_cons_succ]
      refine wpAnyH_take (i := 5) (oi := ⟨some 14, _, _, _, _, _⟩) (v := ?_) rfl (by kernel_rfl) (by kernel_rfl) (by kernel_rfl) (fun _ _ _ h => h) (Or.inl ⟨by rfl, ?_⟩) (by assumption) ?_
      rotate_left
      focus (intro w hSw; (try dsimp only at hSw); go_simp; first | done | with_reducible rfl)
      try simp only [Act.put, List.setIfInBounds_toArray, List.set_cons_zero, List.set_cons_succ]
      refine wpAnyH_ready (rs := [6]) (by kernel_rfl) (by simp) ?_
      refine AllReadyH.cons (o := ⟨some 15, _, _, _, _, _⟩) rfl (fun K hK => ?_) AllReadyH.nil
      go_simp
      have hc := place_any _ nv ns n (HNM.out.below hHeld.1.out) HR.out.ln; (with_reducible refine hc.mono ?_); rintro e v1 ⟨rfl, hb⟩; clear hc
      go_wp2_with fail
      refine hK.out _ _ (by exact ⟨Lib.hid (hHeld.1.out.trans (hb.mono hHeld.1.out.size)), keep_cell hb hHeld.2.1, keep_cell hb hHeld.2.2⟩) (fun hNew => ?_)
      clear hK K
      clear hHeld hb; have hHeld := hNew; clear hNew
      try simp only [Act.put, List.setIfInBounds_toArray, List.set_cons_zero, List.set_cons_succ]
      refine wpAnyH_take (i := 7) (oi := ⟨some 5, _, _, _, _, _⟩) (v := ?_) rfl (by kernel_rfl) (by kernel_rfl) (by kernel_rfl) (fun _ _ _ h => h) (Or.inl ⟨by rfl, ?_⟩) (by assumption) ?_
      rotate_left
      focus (intro w hSw; (try dsimp only at hSw); go_simp; first | done | with_reducible rfl)
      try simp only [Act.put, List.setIfInBounds_toArray, List.set_cons_zero, List.set_cons_succ]
      refine wpAnyH_done (by kernel_rfl) ?_ _
      have HB5 := Lib.hid hHeld.1.out
      clear hHeld
      have hR5 := HRW.out.below HB5.out
      have hpl := plc_in HNS.out
      generalize hix : ixO ns n = ix at *
      obtain ⟨k9, p9, n9, N9, s9, ta9, hlt9, hcase⟩ := hR5.is HNS.out
      rw [hix] at ta9 hlt9
      have HIX := Lib.hid hix
      have HR5 := Lib.hid hR5
      have HX5 := Lib.hid (HX1.out.below HB5.out)
      have HRES5 := Lib.hid (hb_below HRES.out HB5.out (hb_lt HRES.out))
      have HBX5 := Lib.hid (hb_below HBX.out HB5.out (hb_lt HBX.out))
      have HBEL5 := Lib.hid (HBEL.out.trans (HB5.out.mono HBEL.out.size))
      obtain ⟨x0, x1, x2, x3, x4⟩ := box_cells HBX5.out
      obtain ⟨e0, e1, e2, e3, e4⟩ := box_cells HRES5.out
      have f0 := hb_free HRES5.out 0
      have f1 := hb_free HRES5.out 1
      have f2 := hb_free HRES5.out 2
      have f3 := hb_free HRES5.out 3
      have f4 := hb_free HRES5.out 4
      have g0 := hb_free HBX5.out 0
      have g1 := hb_free HBX5.out 1
      have g2 := hb_free HBX5.out 2
      have g3 := hb_free HBX5.out 3
      have g4 := hb_free HBX5.out 4
      have z1 := hb_at hR5.blk 1 rfl
      have hlt9' : (ix : Int) < (ns.length : Int) := by omega
      have hnn : decide ((ix : Int) < 0) = false := by simp
      clear hR5 hix
      obtain ⟨t0, t1, t2, t3, t4⟩ := ta9
      rw [hpl]
      have hk0 : k9 = 0 := by
        rcases hcase with ⟨_, h⟩ | ⟨x, h, _⟩
        · exact h
        · rw [HN.out] at h; cases h
      subst hk0
      clear hcase t1 t2 t3 t4
      go_wp2
      obtain ⟨y1, y2, y3⟩ := box_set (base := w.heap.size) (by omega) HRES5.out (.int .i64 1) (.string p) (.string n) (.int .i64 N) (.slice q l c)
      refine bodyPost_ret (v := tv 1 p n N (.slice q l c)) (by simp [results, Tryd.results70, go_sem, hb_at y1 0 rfl, hb_at y1 1 rfl, hb_at y1 2 rfl, hb_at y1 3 rfl, hb_at y1 4 rfl]) rfl ⟨1, p, n, N, q, l, c, rfl, ?_, ?_⟩
      · exact HX5.out.move fun b hb _ => ⟨hb, y3.block b (by have := HR.out.b0; omega)⟩
      · exact HBEL5.out.trans y3
    · have hns := (hwt.var).1
      have HNS := Lib.hid hns
      have HN := Lib.hid hn
      have hRw := HR.out.below hbel
      have HRW := Lib.hid hRw
      have z0 := hb_at hRw.blk 0 rfl
      have HNM := Lib.hid hRw.nm.o
      have HLK2 := Lib.hid hlk2
      clear hlk2
      clear hbx hx1 hres hbel hlk hwt hd hn hns hRw
      go_upto_region 2 with (fail)
      refine wp_region_held_drew (S := (fun w' => RowKit.Hid (Below wr.heap.size wr w') ∧ w'.cell? ⟨B, 0, none⟩ = some (nv) ∧ w'.cell? ⟨w.heap.size, 2, none⟩ = some (.string n))) (by kernel_rfl) (by exact ⟨Lib.hid (below_drewN (Below.refl _ _) 1), z0, x2⟩) (fun hHeld => ?_)
      refine wpAnyH_take (i := 0) (oi := ⟨some 9, _, _, _, _, _⟩) (v := ?_) rfl (by kernel_rfl) (by kernel_rfl) (by kernel_rfl) (fun _ _ _ h => h) (Or.inl ⟨by rfl, ?_⟩) (by assumption) ?_
      rotate_left
      focus (intro w hSw; (try dsimp only at hSw); go_simp; first | done | with_reducible rfl)
      try simp only [Act.put, List.setIfInBounds_toArray, List.set_cons_zero, List.set_cons_succ]
      refine wpAnyH_take (i := 1) (oi := ⟨some 10, _, _, _, _, _⟩) (v := ?_) rfl (by kernel_rfl) (by kernel_rfl) (by kernel_rfl) (fun _ _ _ h => h) (Or.inl ⟨by rfl, ?_⟩) (by assumption) ?_
      rotate_left
      focus (intro w hSw; (try dsimp only at hSw); go_simp; first | done | with_reducible rfl)
      try simp only [Act.put, List.setIfInBounds_toArray, List.set_cons_zero, List.set_cons_succ]
      refine wpAnyH_take (i := 2) (oi := ⟨some 11, _, _, _, _, _⟩) (v := ?_) rfl (by kernel_rfl) (by kernel_rfl) (by kernel_rfl) (fun _ _ _ h => h) (Or.inl ⟨by rfl, ?_⟩) (by assumption) ?_
      rotate_left
      focus (intro w hSw; (try dsimp only at hSw); go_simp; first | done | with_reducible rfl)
      try simp only [Act.put, List.setIfInBounds_toArray, List.set_cons_zero, List.set_cons_succ]
      refine wpAnyH_take (i := 3) (oi := ⟨some 12, _, _, _, _, _⟩) (v := ?_) rfl (by kernel_rfl) (by kernel_rfl) (by kernel_rfl) (fun _ _ _ h => h) (Or.inl ⟨by rfl, ?_⟩) (by assumption) ?_
      rotate_left
      focus (intro w hSw; (try dsimp only at hSw); go_simp; first | done | with_reducible rfl)
      try simp only [Act.put, List.setIfInBounds_toArray, List.set_cons_zero, List.set_cons_succ]
      refine wpAnyH_take (i := 4) (oi := ⟨some 13, _, _, _, _, _⟩) (v := ?_) rfl (by kernel_rfl) (by kernel_rfl) (by kernel_rfl) (fun _ _ _ h => h) (Or.inl ⟨by rfl, ?_⟩) (by assumption) ?_
      rotate_left
      focus (intro w hSw; (try dsimp only at hSw); go_simp; first | done | with_reducible rfl)
      try simp only [Act.put, List.setIfInBounds_toArray, List.set_cons_zero, List.set_cons_succ]
      refine wpAnyH_take (i := 5) (oi := ⟨some 14, _, _, _, _, _⟩) (v := ?_) rfl (by kernel_rfl) (by kernel_rfl) (by kernel_rfl) (fun _ _ _ h => h) (Or.inl ⟨by rfl, ?_⟩) (by assumption) ?_
      rotate_left
      focus (intro w hSw; (try dsimp only at hSw); go_simp; first | done | with_reducible rfl)
      try simp only [Act.put, List.setIfInBounds_toArray, List.set_cons_zero, List.set_cons_succ]
      refine wpAnyH_ready (rs := [6]) (by kernel_rfl) (by simp) ?_
      refine AllReadyH.cons (o := ⟨some 15, _, _, _, _, _⟩) rfl (fun K hK => ?_) AllReadyH.nil
      go_simp
      have hc := place_any _ nv ns n (HNM.out.below hHeld.1.out) HR.out.ln; (with_reducible refine hc.mono ?_); rintro e v1 ⟨rfl, hb⟩; clear hc
      go_wp2_with fail
      refine hK.out _ _ (by exact ⟨Lib.hid (hHeld.1.out.trans (hb.mono hHeld.1.out.size)), keep_cell hb hHeld.2.1, keep_cell hb hHeld.2.2⟩) (fun hNew => ?_)
      clear hK K
      clear hHeld hb; have hHeld := hNew; clear hNew
      try simp only [Act.put, List.setIfInBounds_toArray, List.set_cons_zero, List.set_cons_succ]
      refine wpAnyH_take (i := 7) (oi := ⟨some 5, _, _, _, _, _⟩) (v := ?_) rfl (by kernel_rfl) (by kernel_rfl) (by kernel_rfl) (fun _ _ _ h => h) (Or.inl ⟨by rfl, ?_⟩) (by assumption) ?_
      rotate_left
      focus (intro w hSw; (try dsimp only at hSw); go_simp; first | done | with_reducible rfl)
      try simp only [Act.put, List.setIfInBounds_toArray, List.set_cons_zero, List.set_cons_succ]
      refine wpAnyH_done (by kernel_rfl) ?_ _
      have HB5 := Lib.hid hHeld.1.out
      clear hHeld
      have hR5 := HRW.out.below HB5.out
      have hpl := plc_in HNS.out
      generalize hix : ixO ns n = ix at *
      obtain ⟨k9, p9, n9, N9, s9, ta9, hlt9, hcase⟩ := hR5.is HNS.out
      rw [hix] at ta9 hlt9
      have HIX := Lib.hid hix
      have HR5 := Lib.hid hR5
      have HX5 := Lib.hid (HX1.out.below HB5.out)
      have HRES5 := Lib.hid (hb_below HRES.out HB5.out (hb_lt HRES.out))
      have HBX5 := Lib.hid (hb_below HBX.out HB5.out (hb_lt HBX.out))
      have HBEL5 := Lib.hid (HBEL.out.trans (HB5.out.mono HBEL.out.size))
      obtain ⟨x0, x1, x2, x3, x4⟩ := box_cells HBX5.out
      obtain ⟨e0, e1, e2, e3, e4⟩ := box_cells HRES5.out
      have f0 := hb_free HRES5.out 0
      have f1 := hb_free HRES5.out 1
      have f2 := hb_free HRES5.out 2
      have f3 := hb_free HRES5.out 3
      have f4 := hb_free HRES5.out 4
      have g0 := hb_free HBX5.out 0
      have g1 := hb_free HBX5.out 1
      have g2 := hb_free HBX5.out 2
      have g3 := hb_free HBX5.out 3
      have g4 := hb_free HBX5.out 4
      have z1 := hb_at hR5.blk 1 rfl
      have hlt9' : (ix : Int) < (ns.length : Int) := by omega
      have hnn : decide ((ix : Int) < 0) = false := by simp
      clear hR5 hix
      obtain ⟨t0, t1, t2, t3, t4⟩ := ta9
      rw [hpl]
      obtain ⟨x9, hSx, hx9, hk9⟩ : ∃ x, S n = some x ∧ IsX (fun b => b < B0) _ D (tv k9 p9 n9 N9 s9) x ∧ k9 ≠ 0 := by
        rcases hcase with ⟨h, _⟩ | h
        · rw [HN.out] at h; cases h
        · exact h
      obtain rfl : x9 = c2 := by rw [HN.out] at hSx; exact (Option.some.inj hSx).symm
      obtain ⟨_, _, _, _, q9, l9, c9, hv9⟩ := hx9.shape
      cases hv9
      have hk9' : (k9 == 0) = false := by simpa using hk9
      have HX9 := Lib.hid hx9
      clear hcase hSx hx9 hk9
      go_wp2
      obtain ⟨y1, y2, y3⟩ := box_set (base := w.heap.size) (Nat.le_refl _) HBX5.out (.int .i64 k9) (.string p9) (.string n9) (.int .i64 N9) (.slice q9 l9 c9)
      refine HLE.out _ _ (by rw [← HM.out]; exact Nat.lt_succ_self _) ⟨⟨k9, p9, n9, N9, q9, l9, c9, x9, y1, HX9.out.move fun b hb _ => ⟨hb, y3.block b (by have := HR.out.b0; omega)⟩, HLK2.out, HI.out.wt HN.out⟩, ?_, HBEL5.out.trans y3⟩
      rw [y2 _ (by omega)]; exact HRES5.out
end Go.Proofs.YtncebhddcokkoaaDoor
/- The document's solver: does a variable stand in a type. -/
namespace Go.Proofs.YtncebhddcokkoaaDoor
open Go.RowKit
set_option linter.unusedSimpArgs false
set_option linter.unusedVariables false
theorem IsX.opn {X : Nat → Prop} {w : World} {D : Nat} {v : Value} {t : Tm} (h : IsX X w D v t) : ∃ k p n N q c l, v = tv k p n N (.slice q l.length c) ∧ t = .mk k p n N l ∧ p.size ≤ maxLen ∧ n.size ≤ maxLen ∧ l.length ≤ maxLen ∧
    ∀ (i : Nat) (x : Tm), l[i]? = some x → ∃ b o k' p' n' N' q' l' c', q = some ⟨b, o, none⟩ ∧ X b ∧ TAt w b (o + i * 5) k' p' n' N' (.slice q' l' c') ∧ IsX X w D (tv k' p' n' N' (.slice q' l' c')) x := by
  cases D with
  | zero => cases h
  | succ D =>
    obtain ⟨k, p, n, N, l⟩ := t
    obtain ⟨q, c, h1, h2, h3, h4, h5⟩ := h
    refine ⟨k, p, n, N, q, c, l, h1, rfl, h2, h3, h4, fun i x hx => ?_⟩
    obtain ⟨b, o, k', p', n', N', s', e, hX, ha, ht⟩ := h5 i x hx
    obtain ⟨_, _, _, _, q', l', c', e2⟩ := ht.shape
    cases e2
    exact ⟨b, o, k', p', n', N', q', l', c', e, hX, ha, ht.more (Nat.le_succ _)⟩
/-- Whether a variable stands in what a type comes to. -/
def WinQ (n : ByteArray) (u : Tm) (w : World) (e : Ending) (w' : World) : Prop := ∃ b : Bool, e = .returned (.bool b) ∧ (b = true ↔ Oc n u) ∧ Below w.heap.size w w'
theorem cnt2_part {k N : Int} {p n : ByteArray} {l : List Tm} {x : Tm} (h : x ∈ l) : cnt2 x < cnt2 (.mk k p n N l) := by
  rw [cnt2_eq]
  have := RS.sum_mem (f := cnt2) h
  omega
set_option maxRecDepth 100000 in
set_option maxHeartbeats 2000000 in
theorem within_any {B0 B g D : Nat} {ns : List ByteArray} {S : RS} {nv : Value} {cg : Nat} (hI : S.Inv ns (ixO ns)) (a : ByteArray) : ∀ (sz : Nat) (w : World) (v : Value) (t uu : Tm), RSt B0 B g D ns S nv cg w → IsX (fun b => b < B0) w D v t → Wt ns t → RS.Fu S t uu → cnt2 uu ≤ sz →
    Calls Tryd.prog 88 #[.pointer (some ⟨B, 0, none⟩), .string a, v] w (WinQ a uu w) := by
  intro sz
  induction sz with
  | zero => intro w v t uu _ _ _ _ h; have := cnt2_pos uu; omega
  | succ sz ih =>
    intro w v t uu hR hv ht hf hsz
    obtain ⟨k0, p0, n0, N0, q0, l0, c0, rfl⟩ := hv.shape
    obtain ⟨u, hu, hfu⟩ := RS.Look.ex hf
    have hwt := hu.wt hI ht
    have hba := below_alloc w (.cells #[.int .i64 k0, .string p0, .string n0, .int .i64 N0, .slice q0 l0 c0] 36)
    have hbn := hb_new w (.cells #[.int .i64 k0, .string p0, .string n0, .int .i64 N0, .slice q0 l0 c0] 36)
    have HLK := Lib.hid (look_any (hR.below hba) hI (hv.below hba) ht hu)
    have HR := Lib.hid hR
    have HI := Lib.hid hI
    have HIH := Lib.hid ih
    have HWT := Lib.hid hwt
    have HFU := Lib.hid hfu
    have HLT := Lib.hid hu
    have HSZ := Lib.hid hsz
    have HBA := Lib.hid hba
    have HBN := Lib.hid hbn
    have hBl := hR.lt
    obtain ⟨x0, x1, x2, x3, x4⟩ := box_cells hbn
    clear hR hI hv ht hf hu hfu hwt hsz ih hba hbn
    go_enter Tryd.func88, Tryd.ntmps88
    go_upto_region 2 with (go_at_call 70; (with_reducible refine HLK.out.mono ?_); rintro e w1 ⟨k, p, m, N, q, l, c, rfl, hx, hb⟩; have HX := Lib.hid hx; have HB1 := Lib.hid hb; have hb1 := hb_below HBN.out hb (hb_lt HBN.out); have f0 := hb_free hb1 0; have f1 := hb_free hb1 1; have f2 := hb_free hb1 2; have f3 := hb_free hb1 3; have f4 := hb_free hb1 4; have e0 := hb_at hb1 0 rfl; have e1 := hb_at hb1 1 rfl; have e2 := hb_at hb1 2 rfl; have e3 := hb_at hb1 3 rfl; have e4 := hb_at hb1 4 rfl; have HBB := Lib.hid hb1; clear hx hb hb1)
    obtain ⟨y1, y2, y3⟩ := box_set (base := w.heap.size) (Nat.le_refl _) HBB.out (.int .i64 k) (.string p) (.string m) (.int .i64 N) (.slice q l c)
    have hX2 := HX.out.move (Y := fun b => b < B0) fun b hb _ => ⟨hb, y3.block b (by have := HR.out.b0; omega)⟩
    have hB2 := (HBA.out.trans (HB1.out.mono HBA.out.size)).trans y3
    have HB2 := Lib.hid hB2
    have HB0 := Lib.hid HR.out.b0
    have HY := Lib.hid y1
    clear y2 y3 HBN HBB HB1 HBA HLK HX hB2 f0 f1 f2 f3 f4 e0 e1 e2 e3 e4
    generalize (((((w1.setCell ⟨w.heap.size, 0, none⟩ (.int .i64 k)).setCell ⟨w.heap.size, 1, none⟩ (.string p)).setCell ⟨w.heap.size, 2, none⟩ (.string m)).setCell ⟨w.heap.size, 3, none⟩ (.int .i64 N)).setCell ⟨w.heap.size, 4, none⟩ (.slice q l c)) = W2 at *
    obtain ⟨k', p', m', N', q', c', l', hv, rfl, _, _, hll, hkids⟩ := hX2.opn
    cases hv
    obtain ⟨z0, z1, z2, z3, z4⟩ := box_cells y1
    have HKIDS := Lib.hid hkids
    clear hX2 hkids y1
    rcases HFU.out.inv rfl with ⟨rfl, hSn, hu⟩ | ⟨rfl, c2, hc2, hf2⟩ | ⟨hk, ms, hu, hml, hkf⟩
    · have HSN := Lib.hid hSn
      have HU := Lib.hid hu
      clear hSn hu
      rcases Bool.eq_false_or_eq_true (m.toList == a.toList) with he | he
      · go_wp2
        go_ret
        refine ⟨_, rfl, ?_, HB2.out⟩
        rw [HU.out]
        have e : m = a := toList_inj (by simpa using he)
        subst e
        exact ⟨fun _ => .var, fun _ => rfl⟩
      · go_wp2
        go_ret
        refine ⟨_, rfl, ?_, HB2.out⟩
        rw [HU.out]
        constructor
        · intro h; cases h
        · intro h
          rcases h.inv rfl with ⟨_, e⟩ | ⟨e, _⟩
          · subst e; simp at he
          · exact absurd rfl e
    · exfalso
      obtain ⟨k9, N9, p9, n9, l9, e, hno⟩ := HLT.out.top
      injection e with e1 _ e3
      subst e1 e3
      rw [hno rfl] at hc2
      cases hc2
    · subst hu
      have hk1 : (k == 1) = false := by simpa using hk
      have HK := Lib.hid hk
      have HML := Lib.hid hml
      have HKF := Lib.hid hkf
      unfold maxLen at hll
      clear hk hml hkf
      go_wp2
      go_loopw [7] (fun t wr => ∃ j : Nat, j ≤ l'.length ∧ t = .int .i64 j ∧ Below W2.heap.size W2 wr ∧ ∀ (i : Nat) (y : Tm), i < j → ms[i]? = some y → ¬ Oc a y) (fun t _ => l'.length - (intOf t).toNat)
      case atStart => exact ⟨0, Nat.zero_le _, rfl, Below.refl _ _, fun i y hi => by omega⟩
      case round =>
        obtain ⟨j, hj, rfl, hb, hno⟩ := hrel
        have HNO := Lib.hid hno
        have HB := Lib.hid hb
        have hby := hb_below HY.out hb (hb_lt HY.out)
        obtain ⟨z0, z1, z2, z3, z4⟩ := box_cells hby
        clear hno hby
        by_cases hlt : j < l'.length
        · have hlt2 : (j : Int) < (l'.length : Int) := by omega
          have hx := List.getElem?_eq_getElem hlt
          obtain ⟨y, hy⟩ := at_both HML.out hx
          obtain ⟨bk, ok, k3, p3, n3, N3, q3, l3, c3, rfl, hbk, hta, hx3⟩ := HKIDS.out j _ hx
          have hfy := HKF.out j _ y hx hy
          have hwy := HWT.out.kid HK.out (List.mem_of_getElem? hx)
          have hBw : Below w.heap.size w wr := HB2.out.trans (hb.mono HB2.out.size)
          have hcy : cnt2 y ≤ sz := by
            have h1 := cnt2_part (k := k) (p := p) (n := m) (N := N) (List.mem_of_getElem? hy)
            have := HSZ.out
            omega
          have HC := Lib.hid (HIH.out wr _ _ y (HR.out.below hBw) (hx3.below hb) hwy hfy hcy)
          have HBW := Lib.hid hBw
          have HYY := Lib.hid hy
          obtain ⟨t0, t1, t2, t3, t4⟩ := hta.below hb hta.lt
          clear hx hy hta hx3 hfy hwy hBw hcy hb
          go_wp2_with (go_at_call 88; (with_reducible refine HC.out.mono ?_); rintro e w4 ⟨r, rfl, hr, hb4⟩; have HRR := Lib.hid hr; have HB4 := Lib.hid hb4; clear hr hb4; rcases Bool.eq_false_or_eq_true r with hrt | hrt; (subst hrt); rotate_left; (subst hrt))
          · refine ⟨⟨j + 1, by omega, rfl, HB.out.trans (HB4.out.mono HB.out.size), fun i y9 hi hy9 ho => ?_⟩, by simp [intOf]; omega⟩
            by_cases e : i = j
            · subst e
              rw [HYY.out] at hy9
              cases hy9
              have := HRR.out.2 ho
              cases this
            · exact HNO.out i y9 (by omega) hy9 ho
          · go_ret
            exact ⟨_, rfl, ⟨fun _ => .kid HK.out (List.mem_of_getElem? HYY.out) (HRR.out.1 (by first | rfl | trivial)), fun _ => (by first | rfl | trivial)⟩, HBW.out.trans (HB4.out.mono HBW.out.size)⟩
        · obtain rfl : j = l'.length := by omega
          clear hb
          go_wp2
          go_ret
          refine ⟨_, rfl, ?_, HB2.out.trans (HB.out.mono HB2.out.size)⟩
          constructor
          · intro h; cases h
          · intro h
            exfalso
            rcases h.inv rfl with ⟨e, _⟩ | ⟨_, x, hx, ho⟩
            · exact HK.out e
            · obtain ⟨i, hi⟩ := List.getElem?_of_mem hx
              exact HNO.out i x (by rw [HML.out]; exact (List.getElem?_eq_some_iff.1 hi).1) hi ho
end Go.Proofs.YtncebhddcokkoaaDoor
