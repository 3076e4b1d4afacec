/- Texts in a row: Mn Pd Pw. -/
import Derived.Test.YtncebhddcokkoaaDoorZU33
import Derived.Test.YtncebhddcokkoaaDoorZU11
import Derived.Test.YtncebhddcokkoaaDoorZU31
import Derived.Test.YtncebhddcokkoaaDoorZU10
import Derived.Test.YtncebhddcokkoaaDoorZU9
import Derived.Test.YtncebhddcokkoaaDoorZU29
import Derived.Test.YtncebhddcokkoaaDoorZU13
import Derived.Test.YtncebhddcokkoaaDoorZU8
import Derived.Deep.QuietTactic
import Derived.BigQuiet
import Derived.Deep.DeepCutAuto
import Derived.Outline
/- What solves equations, put into them. -/
namespace Go.Proofs.YtncebhddcokkoaaDoor
open Go.RowKit Go.Maps
set_option linter.unusedSimpArgs false
set_option linter.unusedVariables false
theorem oc_hasV {s : ByteArray} : ∀ {d : Nat} {t : Tm}, Dp d t → Oc s t → hasV d t s := by
  intro d
  induction d with
  | zero => intro t h; cases h
  | succ d ih =>
    intro t h ho
    obtain ⟨k, p, n, N, kids⟩ := t
    rcases ho.inv rfl with ⟨h1, h2⟩ | ⟨h1, x, hx, hox⟩
    · exact .inl ⟨h1, h2⟩
    · exact .inr ⟨x, hx, ih (h x hx) hox⟩
theorem fg_some {names : List ByteArray} {n : ByteArray} : ∀ k, k ≤ names.length → n ∈ names.take k → ∃ i : Nat, i < names.length ∧ fg names k n = some (i : Int) ∧ names[i]? = some n := by
  intro k
  induction k with
  | zero => intro _ h; simp at h
  | succ k ih =>
    intro hk h
    have hx : names[k]? = some (names[k]'(by omega)) := List.getElem?_eq_getElem (by omega)
    rw [List.take_add_one, hx] at h
    have h : n ∈ names.take k ++ [names[k]'(by omega)] := h
    show ∃ i : Nat, i < names.length ∧ (match fg names k n with | some i => some i | none => if names[k]? = some n then some (k : Int) else none) = some (i : Int) ∧ names[i]? = some n
    cases e : fg names k n with
    | some j =>
      by_cases hm : n ∈ names.take k
      · obtain ⟨i, h1, h2, h3⟩ := ih (by omega) hm
        rw [e] at h2
        exact ⟨i, h1, h2, h3⟩
      · rw [fg_none_iff (s := n) (fun x hx hxe => hm (by rw [← hxe]; exact hx))] at e
        cases e
    | none =>
      by_cases hm : n ∈ names.take k
      · obtain ⟨i, _, h2, _⟩ := ih (by omega) hm
        rw [e] at h2
        cases h2
      · rcases List.mem_append.1 h with h | h
        · exact absurd h hm
        · have h := List.mem_singleton.1 h
          refine ⟨k, by omega, ?_, by rw [hx, h]⟩
          rw [if_pos (by rw [hx, h])]
/-- What is in a name's place. -/
theorem byOf_map {names : List ByteArray} {σ : ByteArray → Tm} {n : ByteArray} (h : n ∈ names) : byOf (fg names names.length) (names.map σ) n = some (σ n) := by
  obtain ⟨i, h1, h2, h3⟩ := fg_some names.length (Nat.le_refl _) (by rw [List.take_length]; exact h)
  unfold byOf
  rw [h2]
  show (names.map σ)[(i : Int).toNat]? = _
  rw [Int.toNat_natCast, List.getElem?_map, h3]
  rfl
/-- Put into a type, they make what a solution makes of it. -/
theorem so_sub {σ : ByteArray → Tm} {β : ByteArray → Option Tm} : ∀ (d : Nat) (t : Tm), Tyy t → Dp d t → (∀ n, Oc n t → β n = some (σ n)) → So σ t (sub β d t) := by
  intro d
  induction d with
  | zero => intro t _ h; cases h
  | succ d ih =>
    intro t ht hd hβ
    cases ht with
    | var s =>
      have h := hβ s .var
      have e : sub β (d + 1) (vN s) = σ s := by
        unfold vN sub
        rw [if_pos rfl, h]
      rw [e]
      exact .var
    | con hk h =>
      rename_i k p n l
      rw [sub_no (by rw [if_neg hk])]
      refine .con hk (by simp) (fun i x y hx hy => ?_)
      rw [List.getElem?_map, hx] at hy
      have hy := Option.some.inj hy
      have hm := List.mem_of_getElem? hx
      rw [← hy]
      exact ih x (h x hm) (hd x hm) fun n hn => hβ n (.kid hk hm hn)
theorem sub_self {E : List (Tm × Tm)} {d D : Nat} {σ : ByteArray → Tm} (h : Best E (nmsE d E) σ) {n : ByteArray} (hn : n ∈ nmsE d E) (hd : Dp D (σ n)) : sub (byOf (fg (nmsE d E) (nmsE d E).length) ((nmsE d E).map σ)) D (σ n) = σ n := by
  have g1 := so_sub (σ := σ) (β := byOf (fg (nmsE d E) (nmsE d E).length) ((nmsE d E).map σ)) D (σ n) (h.mgu.ty n hn) hd (fun m hm => byOf_map (h.mgu.oc n hn m hm).1)
  exact g1.det (h.gen σ h.sol n hn)
end Go.Proofs.YtncebhddcokkoaaDoor
/- The document's Match: what it puts. -/
namespace Go.Proofs.YtncebhddcokkoaaDoor
open Go.RowKit
set_option linter.unusedSimpArgs false
set_option linter.unusedVariables false
/-- A list of one that was made. -/
def Inr.MP.oneV (cs : Array Value) : Inr.MP := ⟨fun v w => ∃ g, v = .slice (some ⟨g, 0, none⟩) 1 1 ∧ w.heap[g]? = some (.cells cs 38 (0, 0)), fun v w w' ⟨g, h1, h3⟩ hb => ⟨g, h1, hb_below h3 hb (hb_lt h3)⟩⟩
end Go.Proofs.YtncebhddcokkoaaDoor
/- Names and terms, put into two rows; what SchemeMatches puts. -/
namespace Go.Proofs.YtncebhddcokkoaaDoor
open Go.RowKit
set_option linter.unusedSimpArgs false
set_option linter.unusedVariables false
/-- Two rows of one's own, of names and of terms: these out of blocks that were there. -/
structure Ls (wl w : World) (D : Nat) (ns : List ByteArray) (ts : List Tm) (nv bv : Value) : Prop where
  bel : Below wl.heap.size wl w
  ns : w.ownsRow wl.heap.size 9 1 nv ns.length (ns.map .string)
  ts : ∃ l : List T5, l.length = ts.length ∧ w.ownsRow wl.heap.size 36 5 bv l.length (flatC l) ∧ ∀ (i : Nat) (x : Tm), ts[i]? = some x → ∃ t : T5, l[i]? = some t ∧ IsX (fun b => b < wl.heap.size) w D (t5v t) x
theorem Ls.start (wl : World) (D : Nat) : Ls wl wl D [] [] (.slice none 0 0) (.slice none 0 0) := ⟨Below.refl _ _, World.ownsRow_nil _ _ _ _, [], rfl, World.ownsRow_nil _ _ _ _, fun i x h => by simp at h⟩
theorem Ls.step {wl w w' : World} {D : Nat} {ns : List ByteArray} {ts : List Tm} {nv bv : Value} (h : Ls wl w D ns ts nv bv) (hb : Below w.heap.size w w') : Ls wl w' D ns ts nv bv := by
  obtain ⟨h1, h2, l, h3, h4, h5⟩ := h
  exact ⟨h1.trans (hb.mono h1.size), own_below h2 hb, l, h3, own_below h4 hb, fun i x hx => by
    obtain ⟨t, e1, e2⟩ := h5 i x hx
    exact ⟨t, e1, e2.below hb⟩⟩
theorem Ls.name {wl w : World} {D : Nat} {ns : List ByteArray} {ts : List Tm} {nv bv : Value} (h : Ls wl w D ns ts nv bv) (hn : ns.length ≤ 100000) {g : Nat} {s : ByteArray} (hg : w.heap[g]? = some (.cells #[.string s] 9 (0, 0))) :
    ∃ v' w', (Builtin.append_ #[33, 33] 33 #[nv, .slice (some ⟨g, 0, none⟩) 1 1]).run Tryd.prog w = .ok v' w' ∧ Ls wl w' D (ns ++ [s]) ts v' bv ∧ (∀ (b : Nat) (cs : Array Value) (t : TypeId) (f : Nat × Nat), w.heap[b]? = some (.cells cs t f) → t ≠ 9 → w'.heap[b]? = some (.cells cs t f)) := by
  obtain ⟨h1, h2, l, h3, h4, h5⟩ := h
  obtain ⟨i0, hi, hz0, hz1, hz2⟩ := info_parts info9
  obtain ⟨v', w', r1, r2, r3, _, r5⟩ := run_append_own_at (P := Tryd.prog) w wl.heap.size 33 33 9 i0 _ 1 16 Tryd.underlying33 hi hz0 hz1 hz2 rfl (by decide) nv ns.length (ns.map .string) h2 ⟨g, 0, none⟩ 1 1 [.string s] rfl (fun j u hu => by
    rw [add_zero_none, hb_cell hg]; simpa using hu) (by simp [Value.oneCell']) (by unfold maxLen; omega) (by omega) h1.size
  have hk : ∀ (b : Nat) (cs : Array Value) (t : TypeId) (f : Nat × Nat), w.heap[b]? = some (.cells cs t f) → t ≠ 9 → w'.heap[b]? = some (.cells cs t f) := fun b cs t f hx ht => hb_grown hx r3 (own_ne h2 hx fun cs f e => by cases e; exact ht rfl)
  refine ⟨v', w', r1, ⟨h1.grown r3 h1.size fun k hk => (h2.lt k hk).1, by simpa using r2, l, h3, own_kept h4 fun b x hb hx => ?_, fun i x hx => ?_⟩, hk⟩
  · rcases h4.2 with ⟨rfl, _⟩ | ⟨gb, cap, cur, rfl, _, hh, _⟩
    · cases hb
    · simp only [Value.ownBlock] at hb
      have e : gb = b := by simpa using hb
      subst e
      rw [hh] at hx
      cases hx
      exact hk _ _ _ _ hh (by decide)
  · obtain ⟨t, e1, e2⟩ := h5 i x hx
    refine ⟨t, e1, e2.move fun b hb hlt => ⟨hb, ?_⟩⟩
    exact r3.block b hlt fun e => by have := (h2.lt b e.symm).1; omega
theorem Ls.term {wl w : World} {D : Nat} {ns : List ByteArray} {ts : List Tm} {nv bv : Value} (h : Ls wl w D ns ts nv bv) (hn : ts.length ≤ 100000) {g : Nat} {k N : Int} {p n : ByteArray} {q : Option Addr} {ln c : Nat} {x : Tm} (hg : w.heap[g]? = some (.cells #[.int .i64 k, .string p, .string n, .int .i64 N, .slice q ln c] 36 (0, 0)))
    (hx : IsT wl D (tv k p n N (.slice q ln c)) x) :
    ∃ v' w', (Builtin.append_ #[34, 34] 34 #[bv, .slice (some ⟨g, 0, none⟩) 1 1]).run Tryd.prog w = .ok v' w' ∧ Ls wl w' D ns (ts ++ [x]) nv v' ∧ (∀ (b : Nat) (cs : Array Value) (t : TypeId) (f : Nat × Nat), w.heap[b]? = some (.cells cs t f) → t ≠ 36 → w'.heap[b]? = some (.cells cs t f)) := by
  obtain ⟨h1, h2, l, h3, h4, h5⟩ := h
  obtain ⟨z, hz, hzc⟩ := info24
  obtain ⟨i0, hi, hz0, hz1, hz2⟩ := info_parts hz
  obtain ⟨v', w', r1, r2, r3, _, r5⟩ := run_append_own_at (P := Tryd.prog) w wl.heap.size 34 34 36 i0 z 5 72 Tryd.underlying34 hi hz0 hz1 hz2 hzc (by decide) bv l.length (flatC l) h4 ⟨g, 0, none⟩ 1 1 [.int .i64 k, .string p, .string n, .int .i64 N, .slice q ln c] rfl (fun j u hu => by
    rw [add_zero_none, hb_cell hg]; simpa using hu) (by simp [Value.oneCell']) (by unfold maxLen; omega) (by omega) h1.size
  have hk : ∀ (b : Nat) (cs : Array Value) (t : TypeId) (f : Nat × Nat), w.heap[b]? = some (.cells cs t f) → t ≠ 36 → w'.heap[b]? = some (.cells cs t f) := fun b cs t f hx ht => hb_grown hx r3 (own_ne h4 hx fun cs f e => by cases e; exact ht rfl)
  have hmv : ∀ b, b < wl.heap.size → b < w.heap.size → w'.heap[b]? = w.heap[b]? := fun b hb hlt => r3.block b hlt fun e => by have := (h4.lt b e.symm).1; omega
  refine ⟨v', w', r1, ⟨h1.grown r3 h1.size fun k hk => (h4.lt k hk).1, own_kept h2 fun b x hb hx => ?_, l ++ [(k, p, n, N, .slice q ln c)], by simp [h3], by rw [List.length_append, flatC_snoc]; exact r2, fun i y hy => ?_⟩, hk⟩
  · rcases h2.2 with ⟨rfl, _⟩ | ⟨gb, cap, cur, rfl, _, hh, _⟩
    · cases hb
    · simp only [Value.ownBlock] at hb
      have e : gb = b := by simpa using hb
      subst e
      rw [hh] at hx
      cases hx
      exact hk _ _ _ _ hh (by decide)
  · rw [List.getElem?_append] at hy
    split at hy
    · rename_i hi
      obtain ⟨t, e1, e2⟩ := h5 i y hy
      exact ⟨t, by rw [List.getElem?_append_left (by omega)]; exact e1, e2.move fun b hb hlt => ⟨hb, hmv b hb hlt⟩⟩
    · rename_i hi
      have hi2 : i - ts.length = 0 := by
        have := (List.getElem?_eq_some_iff.1 hy).1
        simp at this
        omega
      rw [hi2] at hy
      obtain rfl : x = y := by simpa using hy
      have hil : i = l.length := by omega
      refine ⟨_, by rw [hil]; exact List.getElem?_concat_length, ?_⟩
      exact (hx.isX.below h1).move fun b hb hlt => ⟨hb, hmv b hb hlt⟩
theorem SRow.o {w : World} {v : Value} {l : List ByteArray} (h : SRow w v l) : SRowO w v l := by
  obtain ⟨q, c, e, h⟩ := h
  exact ⟨q, c, e, fun i s hs => by
    obtain ⟨g, e1, e2⟩ := h i s hs
    exact ⟨g, 0, e1, by rw [Nat.zero_add]; exact e2⟩⟩
theorem Ls.names {wl w : World} {D : Nat} {ns : List ByteArray} {ts : List Tm} {nv bv : Value} (h : Ls wl w D ns ts nv bv) : SRowO w nv ns := (SRow.own rfl h.ns).o
theorem flatC_at : ∀ {l : List T5} {i r : Nat} {t : T5}, l[i]? = some t → r < 5 → (flatC l)[i * 5 + r]? = [Value.int .i64 t.1, .string t.2.1, .string t.2.2.1, .int .i64 t.2.2.2.1, t.2.2.2.2][r]? := by
  intro l
  induction l with
  | nil => intro i r t h; simp at h
  | cons x l ih =>
    intro i r t h hr
    have e : flatC (x :: l) = [Value.int .i64 x.1, .string x.2.1, .string x.2.2.1, .int .i64 x.2.2.2.1, x.2.2.2.2] ++ flatC l := rfl
    cases i with
    | zero =>
      cases h
      rw [e, List.getElem?_append_left (by simp; omega)]
      simp
    | succ i =>
      rw [e, List.getElem?_append_right (by simp; omega)]
      have h2 : (i + 1) * 5 + r - [Value.int .i64 x.1, .string x.2.1, .string x.2.2.1, .int .i64 x.2.2.2.1, x.2.2.2.2].length = i * 5 + r := by simp; omega
      rw [h2]
      exact ih h hr
theorem Ls.terms {wl w : World} {D : Nat} {ns : List ByteArray} {ts : List Tm} {nv bv : Value} (h : Ls wl w D ns ts nv bv) (hk : ts.length ≤ 100000) : KidsE (fun b => b < wl.heap.size) w D bv ts := by
  obtain ⟨h1, h2, l, hl, ho, hd⟩ := h
  obtain ⟨hfl, ⟨rfl, h0⟩ | ⟨g, cap, cur, rfl, hbg, hh, _, _, _, htk⟩⟩ := ho
  · have : ts = [] := List.eq_nil_of_length_eq_zero (by omega)
    subst this
    exact ⟨none, 0, rfl, Nat.zero_le _, fun i x h => by simp at h⟩
  · refine ⟨some ⟨g, 0, none⟩, cap, by rw [hl], by unfold maxLen; omega, fun i x hx => ?_⟩
    obtain ⟨t, h1, h2⟩ := hd i x hx
    have hi : i < l.length := (List.getElem?_eq_some_iff.1 h1).1
    have hcell : ∀ j (hj : j < 5), w.cell? ⟨g, 0 + i * 5 + j, none⟩ = [Value.int .i64 t.1, .string t.2.1, .string t.2.2.1, .int .i64 t.2.2.2.1, t.2.2.2.2][j]? := fun j hj => by
      have h5 : w.cell? ⟨g, 0 + i * 5 + j, none⟩ = cur[0 + i * 5 + j]? := hb_cell hh _
      rw [h5, ← flatC_at h1 hj, ← htk, List.getElem?_take, if_pos (by omega), Array.getElem?_toList, Nat.zero_add]
    exact ⟨g, 0, _, _, _, _, _, rfl, trivial, ⟨hcell 0 (by omega), hcell 1 (by omega), hcell 2 (by omega), hcell 3 (by omega), hcell 4 (by omega)⟩, h2⟩
end Go.Proofs.YtncebhddcokkoaaDoor
