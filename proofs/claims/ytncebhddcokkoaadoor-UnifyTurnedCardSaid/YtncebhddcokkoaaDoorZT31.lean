/- Texts in a row: Qa Qb Qe. -/
import Derived.Test.YtncebhddcokkoaaDoorZT9
import Derived.Test.YtncebhddcokkoaaDoorZT23
import Derived.Test.YtncebhddcokkoaaDoorZT26
import Derived.Test.YtncebhddcokkoaaDoorZT5
import Derived.Deep.DeepCutAuto
import Derived.StillTailTactics
import Derived.Test.YtncebhddcokkoaaDoorZT20
/- The document's solver: what a call of Unify does to what is known; its mathematics. -/
namespace Go.Proofs.YtncebhddcokkoaaDoor
set_option linter.unusedSimpArgs false
set_option linter.unusedVariables false
/-- Two types become the same. -/
def Eq2 (σ : ByteArray → Tm) (a b : Tm) : Prop := ∃ u, So σ a u ∧ So σ b u
theorem Eq2.symm {σ : ByteArray → Tm} {a b : Tm} : Eq2 σ a b ↔ Eq2 σ b a := ⟨fun ⟨u, h1, h2⟩ => ⟨u, h2, h1⟩, fun ⟨u, h1, h2⟩ => ⟨u, h2, h1⟩⟩
/-- A type whose variables are among these. -/
def Wt (ns : List ByteArray) (t : Tm) : Prop := Tyy t ∧ ∀ m, Oc m t → m ∈ ns
theorem Wt.kid {ns : List ByteArray} {k N : Int} {p n : ByteArray} {l : List Tm} (hk : k ≠ 1) (h : Wt ns (.mk k p n N l)) {x : Tm} (hx : x ∈ l) : Wt ns x := by
  refine ⟨?_, fun m hm => h.2 m (.kid hk hx hm)⟩
  have h1 := h.1
  cases h1 with
  | var s => exact absurd rfl hk
  | con _ h => exact h x hx
theorem Wt.zero {ns : List ByteArray} {k N : Int} {p n : ByteArray} {l : List Tm} (h : Wt ns (.mk k p n N l)) : N = 0 := by
  have h1 := h.1
  cases h1 with
  | var s => rfl
  | con _ h => rfl
theorem Wt.var {ns : List ByteArray} {N : Int} {p n : ByteArray} {l : List Tm} (h : Wt ns (.mk 1 p n N l)) : n ∈ ns ∧ p = ⟨#[]⟩ ∧ l = [] ∧ N = 0 := by
  refine ⟨h.2 n .var, ?_⟩
  have h1 := h.1
  cases h1 with
  | var s => exact ⟨rfl, rfl, rfl⟩
  | con hk _ => exact absurd rfl hk
/-- No kind is 0. -/
inductive NZ : Tm → Prop
  | mk {k N : Int} {p n : ByteArray} {l : List Tm} (hk : k ≠ 0) (h : ∀ x ∈ l, NZ x) : NZ (.mk k p n N l)
theorem NZ.inv {k N : Int} {p n : ByteArray} {l : List Tm} (h : NZ (.mk k p n N l)) : k ≠ 0 ∧ ∀ x ∈ l, NZ x := by
  cases h with
  | mk hk h => exact ⟨hk, h⟩
namespace RS
def Nz (S : RS) : Prop := ∀ n t, S n = some t → NZ t
theorem Look.nz {S : RS} (hS : S.Nz) {t u : Tm} (h : Look S t u) : NZ t → NZ u := by
  induction h with
  | con hk => exact fun h => h
  | free h => exact fun h => h
  | step h h2 ih => exact fun _ => ih (hS _ _ h)
theorem Nz.put {S : RS} (hS : S.Nz) {n : ByteArray} {c : Tm} (hc : NZ c) : Nz (fun m => if m = n then some c else S m) := by
  intro m t h
  by_cases e : m = n
  · have h : (if m = n then some c else S m) = some t := h
    rw [if_pos e] at h; cases h; exact hc
  · have h : (if m = n then some c else S m) = some t := h
    rw [if_neg e] at h; exact hS m t h
/-- So many looks. -/
inductive LkN (S : RS) : Nat → Tm → Tm → Prop
  | con {k N : Int} {p n : ByteArray} {l : List Tm} (hk : k ≠ 1) : LkN S 0 (.mk k p n N l) (.mk k p n N l)
  | free {N : Int} {p n : ByteArray} {l : List Tm} (h : S n = none) : LkN S 0 (.mk 1 p n N l) (.mk 1 p n N l)
  | step {m : Nat} {N : Int} {p n : ByteArray} {l : List Tm} {t u : Tm} (h : S n = some t) (h2 : LkN S m t u) : LkN S (m + 1) (.mk 1 p n N l) u
theorem LkN.look {S : RS} {m : Nat} {t u : Tm} (h : LkN S m t u) : Look S t u := by
  induction h with
  | con hk => exact .con hk
  | free h => exact .free h
  | step h _ ih => exact .step h ih
theorem LkN.inv {S : RS} {m : Nat} {t u : Tm} (h : LkN S m t u) : ∀ {k N : Int} {p n : ByteArray} {l : List Tm}, t = .mk k p n N l → (k ≠ 1 ∧ u = t ∧ m = 0) ∨ (k = 1 ∧ S n = none ∧ u = t ∧ m = 0) ∨ (k = 1 ∧ ∃ c j, m = j + 1 ∧ S n = some c ∧ LkN S j c u) := by
  cases h with
  | con hk => intro k N p n l e; injection e with e1 e2 e3 e4 e5; subst e1 e2 e3 e4 e5; exact .inl ⟨hk, rfl, rfl⟩
  | free h => intro k N p n l e; injection e with e1 e2 e3 e4 e5; subst e1 e2 e3 e4 e5; exact .inr (.inl ⟨rfl, h, rfl, rfl⟩)
  | step h h2 => intro k N p n l e; injection e with e1 e2 e3 e4 e5; subst e1 e2 e3 e4 e5; exact .inr (.inr ⟨rfl, _, _, rfl, h, h2⟩)
theorem Look.wt {S : RS} {ns : List ByteArray} {ix : ByteArray → Nat} (hI : S.Inv ns ix) {t u : Tm} (h : Look S t u) (ht : Wt ns t) : Wt ns u := h.ty hI ht.1 ht.2
/-- What a call of Unify does. -/
structure UR (S : RS) (ns : List ByteArray) (P : (ByteArray → Tm) → Prop) (r : Bool) (S' : RS) : Prop where
  inv : S'.Inv ns (ixO ns)
  yes : r = true → ∀ σ, S'.Sol σ ↔ S.Sol σ ∧ P σ
  no : r = false → ∀ σ, S.Sol σ → ¬ P σ
  nv : S' = S ∨ S'.nv ns < S.nv ns
theorem Look.eq2 {S : RS} {σ : ByteArray → Tm} (hS : S.Sol σ) {a b x y : Tm} (ha : Look S a x) (hb : Look S b y) : Eq2 σ a b ↔ Eq2 σ x y :=
  ⟨fun ⟨u, h1, h2⟩ => ⟨u, (ha.sol hS).1 h1, (hb.sol hS).1 h2⟩, fun ⟨u, h1, h2⟩ => ⟨u, (ha.sol hS).2 h1, (hb.sol hS).2 h2⟩⟩
/-- What is done to the looked types is done to the types. -/
theorem UR.look {S S' : RS} {ns : List ByteArray} {r : Bool} {a b x y : Tm} (ha : Look S a x) (hb : Look S b y) (h : UR S ns (fun σ => Eq2 σ x y) r S') : UR S ns (fun σ => Eq2 σ a b) r S' :=
  ⟨h.inv, fun hr σ => ⟨fun k => ⟨((h.yes hr σ).1 k).1, (ha.eq2 ((h.yes hr σ).1 k).1 hb).2 ((h.yes hr σ).1 k).2⟩, fun k => (h.yes hr σ).2 ⟨k.1, (ha.eq2 k.1 hb).1 k.2⟩⟩, fun hr σ hS k => h.no hr σ hS ((ha.eq2 hS hb).1 k), h.nv⟩
theorem UR.symm {S S' : RS} {ns : List ByteArray} {r : Bool} {a b : Tm} (h : UR S ns (fun σ => Eq2 σ a b) r S') : UR S ns (fun σ => Eq2 σ b a) r S' :=
  ⟨h.inv, fun hr σ => by rw [h.yes hr σ, Eq2.symm], fun hr σ hS k => h.no hr σ hS (Eq2.symm.1 k), h.nv⟩
theorem Inv.wt {S : RS} {ns : List ByteArray} {ix : ByteArray → Nat} (hI : S.Inv ns ix) {n : ByteArray} {t : Tm} (h : S n = some t) : Wt ns t := ⟨hI.ty n t h, hI.occ n t h⟩
end RS
end Go.Proofs.YtncebhddcokkoaaDoor
/- The document's solver in memory. -/
namespace Go.Proofs.YtncebhddcokkoaaDoor
open Go.RowKit
set_option linter.unusedSimpArgs false
set_option linter.unusedVariables false
/-- All stays but one block. -/
structure Gk (B0 g : Nat) (w w' : World) : Prop where
  below : Below B0 w w'
  size : w.heap.size ≤ w'.heap.size
  block : ∀ (k : Nat) (x : Obj), w.heap[k]? = some x → k ≠ g → w'.heap[k]? = some x
theorem Gk.refl (B0 g : Nat) (w : World) : Gk B0 g w w := ⟨Below.refl _ _, Nat.le_refl _, fun _ _ h _ => h⟩
theorem Gk.trans {B0 g : Nat} {w w1 w2 : World} (h : Gk B0 g w w1) (k : Gk B0 g w1 w2) : Gk B0 g w w2 :=
  ⟨h.below.trans k.below, Nat.le_trans h.size k.size, fun b x h1 h2 => k.block b x (h.block b x h1 h2) h2⟩
theorem Gk.of_below {B0 g : Nat} {w w' : World} (hb : B0 ≤ w.heap.size) (h : Below w.heap.size w w') : Gk B0 g w w' :=
  ⟨h.mono hb, h.size, fun b x h1 _ => by rw [h.block b (hb_lt h1)]; exact h1⟩
theorem Gk.cell {B0 g : Nat} {w w' : World} (h : Gk B0 g w w') {b o : Nat} {v : Value} (hc : w.cell? ⟨b, o, none⟩ = some v) (hb : b ≠ g) : w'.cell? ⟨b, o, none⟩ = some v := by
  have hl := block_lt_of_cell hc
  have h1 : w.heap[b]? = some (w.heap[b]'hl) := Array.getElem?_eq_getElem hl
  have h2 := h.block b _ h1 hb
  unfold World.cell? at hc ⊢
  simp only [h1] at hc
  simp only [h2]
  exact hc
theorem IsX.gk {B0 g : Nat} {w w' : World} {d : Nat} {v : Value} {t : Tm} (h : IsX (fun b => b < B0) w d v t) (k : Gk B0 g w w') : IsX (fun b => b < B0) w' d v t :=
  h.move fun b hb _ => ⟨hb, k.below.block b hb⟩
/-- Names in memory, apart from a block. -/
def NmR (g : Nat) (w : World) (v : Value) (ns : List ByteArray) : Prop := ∃ q c, v = .slice q ns.length c ∧ ∀ i s, ns[i]? = some s → ∃ gn o, q = some ⟨gn, o, none⟩ ∧ gn ≠ g ∧ w.cell? ⟨gn, o + i, none⟩ = some (.string s)
theorem NmR.o {g : Nat} {w : World} {v : Value} {ns : List ByteArray} (h : NmR g w v ns) : SRowO w v ns := by
  obtain ⟨q, c, h1, h2⟩ := h
  exact ⟨q, c, h1, fun i s hs => by obtain ⟨gn, o, e, _, hc⟩ := h2 i s hs; exact ⟨gn, o, e, hc⟩⟩
theorem NmR.gk {B0 g : Nat} {w w' : World} {v : Value} {ns : List ByteArray} (h : NmR g w v ns) (k : Gk B0 g w w') : NmR g w' v ns := by
  obtain ⟨q, c, h1, h2⟩ := h
  exact ⟨q, c, h1, fun i s hs => by obtain ⟨gn, o, e, hn, hc⟩ := h2 i s hs; exact ⟨gn, o, e, hn, k.cell hc hn⟩⟩
/-- The document's solver. -/
structure RSt (B0 B g D : Nat) (ns : List ByteArray) (S : RS) (nv : Value) (cg : Nat) (w : World) : Prop where
  hB : B0 ≤ B
  hg : B0 ≤ g
  ne : g ≠ B
  ln : ns.length ≤ 100000
  nm : NmR g w nv ns
  blk : w.heap[B]? = some (.cells #[nv, .slice (some ⟨g, 0, none⟩) ns.length cg] 76 (0, 0))
  row : ∃ ts : List T5, ts.length = ns.length ∧ w.heap[g]? = some (.cells (flatC ts).toArray 36 (0, 0)) ∧ ∀ n ∈ ns, ∃ t, ts[ixO ns n]? = some t ∧ ((S n = none ∧ t.1 = 0) ∨ ∃ x, S n = some x ∧ IsX (fun b => b < B0) w D (t5v t) x ∧ t.1 ≠ 0)
theorem RSt.lt {B0 B g D : Nat} {ns : List ByteArray} {S : RS} {nv : Value} {cg : Nat} {w : World} (h : RSt B0 B g D ns S nv cg w) : B < w.heap.size := hb_lt h.blk
theorem RSt.b0 {B0 B g D : Nat} {ns : List ByteArray} {S : RS} {nv : Value} {cg : Nat} {w : World} (h : RSt B0 B g D ns S nv cg w) : B0 ≤ w.heap.size := Nat.le_trans h.hB (Nat.le_of_lt h.lt)
/-- New blocks. -/
theorem RSt.below {B0 B g D : Nat} {ns : List ByteArray} {S : RS} {nv : Value} {cg : Nat} {w w' : World} (h : RSt B0 B g D ns S nv cg w) (k : Below w.heap.size w w') : RSt B0 B g D ns S nv cg w' := by
  obtain ⟨ts, h1, h2, h3⟩ := h.row
  refine ⟨h.hB, h.hg, h.ne, h.ln, h.nm.gk (Gk.of_below h.b0 k), hb_below h.blk k h.lt, ts, h1, hb_below h2 k (hb_lt h2), fun n hn => ?_⟩
  obtain ⟨t, e, h4⟩ := h3 n hn
  refine ⟨t, e, ?_⟩
  rcases h4 with h4 | ⟨x, h5, h6, h7⟩
  · exact .inl h4
  · exact .inr ⟨x, h5, h6.below k, h7⟩
theorem flatC_row {ts : List T5} {i : Nat} {t : T5} (h : ts[i]? = some t) : ∀ j u, [Value.int .i64 t.1, .string t.2.1, .string t.2.2.1, .int .i64 t.2.2.2.1, t.2.2.2.2][j]? = some u → (flatC ts)[i * 5 + j]? = some u := by
  induction ts generalizing i with
  | nil => simp at h
  | cons y ts ih =>
    intro j u hu
    have e : flatC (y :: ts) = [.int .i64 y.1, .string y.2.1, .string y.2.2.1, .int .i64 y.2.2.2.1, y.2.2.2.2] ++ flatC ts := by simp [flatC]
    rw [e]
    match i, h with
    | 0, h =>
      obtain rfl := Option.some.inj h
      have hj := (List.getElem?_eq_some_iff.1 hu).1
      rw [Nat.zero_mul, Nat.zero_add, List.getElem?_append_left hj]
      exact hu
    | i + 1, h =>
      rw [List.getElem?_append_right (by simp; omega)]
      have := ih (i := i) h j u hu
      rw [← this]
      congr 1
      simp
      omega
theorem flatC_set {ts : List T5} {i : Nat} {t : T5} (h : i < ts.length) : ((((((flatC ts).toArray.setIfInBounds (i * 5) (.int .i64 t.1)).setIfInBounds (i * 5 + 1) (.string t.2.1)).setIfInBounds (i * 5 + 2) (.string t.2.2.1)).setIfInBounds (i * 5 + 3) (.int .i64 t.2.2.2.1)).setIfInBounds (i * 5 + 4) t.2.2.2.2) = (flatC (ts.set i t)).toArray := by
  induction ts generalizing i with
  | nil => simp at h
  | cons y ts ih =>
    have e : ∀ (y : T5) (ts : List T5), flatC (y :: ts) = .int .i64 y.1 :: .string y.2.1 :: .string y.2.2.1 :: .int .i64 y.2.2.2.1 :: y.2.2.2.2 :: flatC ts := fun y ts => by simp [flatC]
    rw [e]
    match i, h with
    | 0, h => simp [e]
    | i + 1, h =>
      have h2 := ih (i := i) (by simpa using h)
      rw [List.set_cons_succ, e]
      simp only [List.setIfInBounds_toArray] at h2 ⊢
      have h3 := congrArg Array.toList h2
      simp only at h3
      congr 1
      rw [← h3]
      have a0 : (i + 1) * 5 = i * 5 + 5 := by omega
      rw [a0]
      rfl
/-- What a name has become. -/
theorem RSt.is {B0 B g D : Nat} {ns : List ByteArray} {S : RS} {nv : Value} {cg : Nat} {w : World} (h : RSt B0 B g D ns S nv cg w) {n : ByteArray} (hn : n ∈ ns) : ∃ k p m N s, TAt w g (ixO ns n * 5) k p m N s ∧ ixO ns n < ns.length ∧ ((S n = none ∧ k = 0) ∨ ∃ x, S n = some x ∧ IsX (fun b => b < B0) w D (tv k p m N s) x ∧ k ≠ 0) := by
  obtain ⟨ts, h1, h2, h3⟩ := h.row
  obtain ⟨⟨k, p, m, N, s⟩, e, h4⟩ := h3 n hn
  have key := flatC_row e
  refine ⟨k, p, m, N, s, ⟨?_, ?_, ?_, ?_, ?_⟩, by rw [← h1]; exact (List.getElem?_eq_some_iff.1 e).1, h4⟩
  · rw [hb_cell h2]; simpa using key 0 _ rfl
  · rw [hb_cell h2]; simpa using key 1 _ rfl
  · rw [hb_cell h2]; simpa using key 2 _ rfl
  · rw [hb_cell h2]; simpa using key 3 _ rfl
  · rw [hb_cell h2]; simpa using key 4 _ rfl
theorem ixO_lt {n : ByteArray} {ns : List ByteArray} (h : n ∈ ns) : ixO ns n < ns.length := (List.getElem?_eq_some_iff.1 (ixO_at h)).1
/-- A name becomes a type. -/
theorem RSt.put {B0 B g D : Nat} {ns : List ByteArray} {S : RS} {nv : Value} {cg : Nat} {w : World} (h : RSt B0 B g D ns S nv cg w) {n : ByteArray} (hn : n ∈ ns) {k N : Int} {p m : ByteArray} {s : Value} {x : Tm} (hx : IsX (fun b => b < B0) w D (tv k p m N s) x) (hk : k ≠ 0) :
    RSt B0 B g D ns (S.put n x) nv cg (((((w.setCell ⟨g, ixO ns n * 5, none⟩ (.int .i64 k)).setCell ⟨g, ixO ns n * 5 + 1, none⟩ (.string p)).setCell ⟨g, ixO ns n * 5 + 2, none⟩ (.string m)).setCell ⟨g, ixO ns n * 5 + 3, none⟩ (.int .i64 N)).setCell ⟨g, ixO ns n * 5 + 4, none⟩ s) ∧
    Gk B0 g w (((((w.setCell ⟨g, ixO ns n * 5, none⟩ (.int .i64 k)).setCell ⟨g, ixO ns n * 5 + 1, none⟩ (.string p)).setCell ⟨g, ixO ns n * 5 + 2, none⟩ (.string m)).setCell ⟨g, ixO ns n * 5 + 3, none⟩ (.int .i64 N)).setCell ⟨g, ixO ns n * 5 + 4, none⟩ s) := by
  obtain ⟨ts, h1, h2, h3⟩ := h.row
  have hlt : ixO ns n < ts.length := by rw [h1]; exact ixO_lt hn
  have hK : Gk B0 g w (((((w.setCell ⟨g, ixO ns n * 5, none⟩ (.int .i64 k)).setCell ⟨g, ixO ns n * 5 + 1, none⟩ (.string p)).setCell ⟨g, ixO ns n * 5 + 2, none⟩ (.string m)).setCell ⟨g, ixO ns n * 5 + 3, none⟩ (.int .i64 N)).setCell ⟨g, ixO ns n * 5 + 4, none⟩ s) :=
    ⟨(((((Below.refl _ _).setCell h.hg _).setCell h.hg _).setCell h.hg _).setCell h.hg _).setCell h.hg _, by simp [World.setCell], fun b z h4 h5 => hb_set_other (hb_set_other (hb_set_other (hb_set_other (hb_set_other h4 _ h5) _ h5) _ h5) _ h5) _ h5⟩
  refine ⟨⟨h.hB, h.hg, h.ne, h.ln, h.nm.gk hK, hK.block _ _ h.blk (fun e => h.ne e.symm), ts.set (ixO ns n) (k, p, m, N, s), by rw [List.length_set]; exact h1, ?_, fun a ha => ?_⟩, hK⟩
  · rw [← flatC_set (t := (k, p, m, N, s)) hlt]
    exact hb_set_same (hb_set_same (hb_set_same (hb_set_same (hb_set_same h2 _ _) _ _) _ _) _ _) _ _
  · by_cases e : a = n
    · subst e
      refine ⟨(k, p, m, N, s), by rw [List.getElem?_set_self hlt], .inr ⟨x, if_pos rfl, hx.gk hK, hk⟩⟩
    · obtain ⟨t, e1, h4⟩ := h3 a ha
      have hne : ixO ns n ≠ ixO ns a := fun e2 => e (ixO_inj hn ha e2).symm
      refine ⟨t, by rw [List.getElem?_set_ne hne]; exact e1, ?_⟩
      have e3 : S.put n x a = S a := if_neg e
      rw [e3]
      rcases h4 with h4 | ⟨y, h5, h6, h7⟩
      · exact .inl h4
      · exact .inr ⟨y, h5, h6.gk hK, h7⟩
end Go.Proofs.YtncebhddcokkoaaDoor
/- The document's solver: Unify where the first one is a variable. -/
namespace Go.Proofs.YtncebhddcokkoaaDoor
open Go.RowKit
set_option linter.unusedSimpArgs false
set_option linter.unusedVariables false
theorem RS.put_put (S : RS) (n : ByteArray) (c : Tm) : (S.put n c).put n c = S.put n c := by
  funext m
  show (if m = n then some c else (if m = n then some c else S m)) = if m = n then some c else S m
  split <;> rfl
/-- The solver, ahead of a store or behind it. -/
def RSt2 (B0 B g D : Nat) (ns : List ByteArray) (S : RS) (nv : Value) (cg : Nat) (n : ByteArray) (c : Tm) (w : World) : Prop := RSt B0 B g D ns S nv cg w ∨ RSt B0 B g D ns (S.put n c) nv cg w
theorem RSt2.below {B0 B g D : Nat} {ns : List ByteArray} {S : RS} {nv : Value} {cg : Nat} {n : ByteArray} {c : Tm} {w w' : World} (h : RSt2 B0 B g D ns S nv cg n c w) (hb : Below w.heap.size w w') : RSt2 B0 B g D ns S nv cg n c w' := by
  rcases h with h | h
  · exact .inl (h.below hb)
  · exact .inr (h.below hb)
theorem RSt.frz {B0 B g D : Nat} {ns : List ByteArray} {S : RS} {nv : Value} {cg : Nat} {w : World} (h : RSt B0 B g D ns S nv cg w) (o : Nat) : w.frozen? ⟨g, o, none⟩ = false := by
  obtain ⟨ts, _, h2, _⟩ := h.row
  exact hb_free h2 o
theorem RSt2.at {B0 B g D : Nat} {ns : List ByteArray} {S : RS} {nv : Value} {cg : Nat} {n : ByteArray} {c : Tm} {w : World} (h : RSt2 B0 B g D ns S nv cg n c w) (hn : n ∈ ns) : ∃ k p m N s, TAt w g (ixO ns n * 5) k p m N s ∧ ∀ o, w.frozen? ⟨g, o, none⟩ = false := by
  rcases h with h | h
  · obtain ⟨k, p, m, N, s, ht, _⟩ := h.is hn
    exact ⟨k, p, m, N, s, ht, h.frz⟩
  · obtain ⟨k, p, m, N, s, ht, _⟩ := h.is hn
    exact ⟨k, p, m, N, s, ht, h.frz⟩
theorem RSt2.put {B0 B g D : Nat} {ns : List ByteArray} {S : RS} {nv : Value} {cg : Nat} {n : ByteArray} {x : Tm} {w : World} (h : RSt2 B0 B g D ns S nv cg n x w) (hn : n ∈ ns) {k N : Int} {p m : ByteArray} {s : Value} (hx : IsX (fun b => b < B0) w D (tv k p m N s) x) (hk : k ≠ 0) :
    RSt B0 B g D ns (S.put n x) nv cg (((((w.setCell ⟨g, ixO ns n * 5, none⟩ (.int .i64 k)).setCell ⟨g, ixO ns n * 5 + 1, none⟩ (.string p)).setCell ⟨g, ixO ns n * 5 + 2, none⟩ (.string m)).setCell ⟨g, ixO ns n * 5 + 3, none⟩ (.int .i64 N)).setCell ⟨g, ixO ns n * 5 + 4, none⟩ s) ∧
    Gk B0 g w (((((w.setCell ⟨g, ixO ns n * 5, none⟩ (.int .i64 k)).setCell ⟨g, ixO ns n * 5 + 1, none⟩ (.string p)).setCell ⟨g, ixO ns n * 5 + 2, none⟩ (.string m)).setCell ⟨g, ixO ns n * 5 + 3, none⟩ (.int .i64 N)).setCell ⟨g, ixO ns n * 5 + 4, none⟩ s) := by
  rcases h with h | h
  · exact h.put hn hx hk
  · have := h.put hn hx hk
    rw [RS.put_put] at this
    exact this
end Go.Proofs.YtncebhddcokkoaaDoor
