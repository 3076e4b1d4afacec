/- Texts in a row: Qk Da Ea. -/
import Derived.Test.YtncebhddcokkoaaDoorZU35
import Derived.Test.YtncebhddcokkoaaDoorZU31
import Derived.Test.YtncebhddcokkoaaDoorZU14
/- UnifySolves: its walk. -/
namespace Go.Proofs.YtncebhddcokkoaaDoor
open Go.RowKit
set_option linter.unusedSimpArgs false
set_option linter.unusedVariables false
/-- What is answered of equations: a number, and a list. -/
def AnsQ (d : Nat) (E : List (Tm × Tm)) (k : Int) (L : List NT) : Prop := (k = 15 ∧ L = [] ∧ ¬ ∃ τ, SolE E τ) ∨
  ∃ σ, Best E (nmsE d E) σ ∧ ((k = 0 ∧ (L = (nmsE d E).map fun n => (n, σ n)) ∧ ∀ n ∈ nmsE d E, cnt2 (σ n) ≤ 1000) ∨ (k = 9 ∧ L = [] ∧ ∃ n ∈ nmsE d E, 1000 < cnt2 (σ n)))
theorem VAt.more {w : World} {d d' : Nat} {v : Value} {L : List NT} (h : VAt w d v L) (hd : d ≤ d') : VAt w d' v L := by
  obtain ⟨q, c, e, hl, h⟩ := h
  refine ⟨q, c, e, hl, fun i x hx => ?_⟩
  obtain ⟨g, k, p, n, N, s, h1, h2, h3, h4, h5⟩ := h i x hx
  exact ⟨g, k, p, n, N, s, h1, h2, h3, h4, h5.more hd⟩
theorem EqAt.more {w : World} {d d' : Nat} {v : Value} {E : List (Tm × Tm)} (h : EqAt w d v E) (hd : d ≤ d') : EqAt w d' v E := by
  obtain ⟨q, c, e, h⟩ := h
  refine ⟨q, c, e, fun i x hx => ?_⟩
  obtain ⟨g, o, k, p, n, N, s, k', p', n', N', s', h1, ⟨h2, h3⟩, h4, h5⟩ := h i x hx
  exact ⟨g, o, k, p, n, N, s, k', p', n', N', s', h1, ⟨h2, h3.more hd⟩, h4, h5.more hd⟩
def AnsR (d : Nat) (E : List (Tm × Tm)) (w : World) (e : Ending) (w' : World) : Prop := ∃ (q : Option Addr) (l c : Nat) (k : Int) (L : List NT), e = .returned (.tuple #[.slice q l c, .int .i64 k]) ∧ VAt w' 1002 (.slice q l c) L ∧ AnsQ d E k L ∧ Below w.heap.size w w'
theorem rsolveA_any (w : World) (d : Nat) (v : Value) (E : List (Tm × Tm)) (hE : EqAt w d v E) (hT : ∀ x ∈ E, Typ x.1 ∧ Typ x.2) (htot : tot d E ≤ 1000) (hel : E.length ≤ 1000) (hd : 1 ≤ d) : Calls Tryd.prog 13 #[v] w (AnsR d E w) := by
  refine (rsolve_any w d v E hE hT htot hel hd).mono ?_
  rintro e w' ⟨hb, ⟨rfl, hno⟩ | ⟨σ, hB, ⟨v', rfl, hall, hv⟩ | ⟨rfl, hbig⟩⟩⟩
  · exact ⟨none, 0, 0, 15, [], rfl, VAt.nil _ _, .inl ⟨rfl, rfl, hno⟩, hb⟩
  · obtain ⟨q, c, rfl⟩ := hv.shape
    exact ⟨_, _, _, 0, _, rfl, hv, .inr ⟨σ, hB, .inl ⟨rfl, rfl, hall⟩⟩, hb⟩
  · exact ⟨none, 0, 0, 9, [], rfl, VAt.nil _ _, .inr ⟨σ, hB, .inr ⟨rfl, rfl, hbig⟩⟩, hb⟩
end Go.Proofs.YtncebhddcokkoaaDoor
/- Equations each of which makes a variable twice the next one: mathematics. -/
namespace Go.Proofs.YtncebhddcokkoaaDoor
open Go.RowKit
set_option linter.unusedSimpArgs false
set_option linter.unusedVariables false
def tn (i : Nat) : ByteArray := ⟨#[116, UInt8.ofNat (97 + i)]⟩
/-- How many terms a tree has, at a depth. -/
theorem tsz_cnt : ∀ (d : Nat) (t : Tm), Dp d t → tszN d t = cnt2 t := by
  intro d
  induction d with
  | zero => intro t h; cases h
  | succ d ih =>
    intro t h
    obtain ⟨k, p, n, N, l⟩ := t
    rw [cnt2_eq]
    show l.foldl (fun n t => n + tszN d t) 1 = 1 + (l.map cnt2).sum
    rw [foldl_tot]
    congr 2
    exact List.map_congr_left fun x hx => ih x (h x hx)
end Go.Proofs.YtncebhddcokkoaaDoor
/- Being above what comes of two: mathematics. -/
namespace Go.Proofs.YtncebhddcokkoaaDoor
open Go.RowKit
set_option linter.unusedSimpArgs false
set_option linter.unusedVariables false
theorem So.ab {τ : ByteArray → Tm} {a b : Tm} (h : So τ a b) : Ab a b := by
  refine ⟨fun n => some (τ n), ?_⟩
  induction h with
  | var => exact .var rfl
  | con hk hl _ ih => exact .con hk hl ih
theorem Typ.ty {t : Tm} (h : Typ t) : ∀ {d : Nat}, Dp d t → Ty d t := by
  induction h with
  | var s =>
    intro d hd
    cases d with
    | zero => cases hd
    | succ d => exact Ty.leaf s d
  | con hk h ih =>
    intro d hd
    cases d with
    | zero => cases hd
    | succ d => exact ⟨rfl, fun e => by omega, fun x hx => ih x hx (hd x hx)⟩
theorem So.tyy {σ : ByteArray → Tm} {a u : Tm} (h : So σ a u) : Tyy a → (∀ n, Oc n a → Tyy (σ n)) → Tyy u := by
  induction h with
  | var => exact fun _ h => h _ .var
  | @con k N p n l m hk hl h ih =>
    intro ha hn
    have key : ∀ x, x ∈ l → Tyy x := by
      cases ha with
      | var s => exact absurd rfl hk
      | con _ hx => exact hx
    have hN : N = (0 : Int) := by
      cases ha with
      | var s => exact absurd rfl hk
      | con _ hx => exact rfl
    subst hN
    refine .con hk fun y hy => ?_
    obtain ⟨i, hi⟩ := List.getElem?_of_mem hy
    obtain ⟨x, hx⟩ := at_both hl.symm hi
    exact ih i x y hx hi (key x (List.mem_of_getElem? hx)) fun n ho => hn n (.kid hk (List.mem_of_getElem? hx) ho)
/-- What comes of two becomes a type that a solution leaves. -/
theorem best_back {E : List (Tm × Tm)} {ns : List ByteArray} {σ τ : ByteArray → Tm} (hB : Best E ns σ) (hτ : SolE E τ) {x u : Tm} (hx : Tyy x) (hn : ∀ n, Oc n x → n ∈ ns) (hu : So σ x u) {y : Tm} (hxx : So τ x y) : So τ u y := by
  have hty := hu.tyy hx fun n ho => hB.mgu.ty n (hn n ho)
  obtain ⟨v, hv⟩ := So.ex (σ := τ) hty
  have h := hu.trans hv fun n ho => hB.gen τ hτ n (hn n ho)
  rw [← h.det hxx]; exact hv
theorem sol_pair {a b u : Tm} {σ : ByteArray → Tm} (h : SolE [(a, b)] σ) (hu : So σ a u) : So σ b u := by
  obtain ⟨v, h1, h2⟩ := h (a, b) (by simp)
  rw [hu.det h1]; exact h2
theorem oc_nms {a b : Tm} {d : Nat} (ha : Dp d a) (hb : Dp d b) : (∀ n, Oc n a → n ∈ nmsE d [(a, b)]) ∧ ∀ n, Oc n b → n ∈ nmsE d [(a, b)] :=
  ⟨fun n h => mem_nmsE.2 ⟨(a, b), by simp, .inl (oc_hasV ha h)⟩, fun n h => mem_nmsE.2 ⟨(a, b), by simp, .inr (oc_hasV hb h)⟩⟩
end Go.Proofs.YtncebhddcokkoaaDoor
