/- Texts in a row: Qj Qk Da. -/
import Derived.Test.YtncebhddcokkoaaDoorZD30
import Derived.Test.YtncebhddcokkoaaDoorZD26
import Derived.Test.YtncebhddcokkoaaDoorZD28
import Derived.Test.YtncebhddcokkoaaDoorZD10
/- The document's solver: Solve. -/
namespace Go.Proofs.YtncebhddcokkoaaDoor
open Go.RowKit
set_option linter.unusedSimpArgs false
set_option linter.unusedVariables false
theorem MadeV.app {base : Nat} {w wq : World} {d : Nat} {sv : Value} {L : List NT} {nm : ByteArray} {x : Tm} {g : Nat} {k N : Int} {p n : ByteArray} {q : Option Addr} {ln c : Nat} (h : MadeV base w d sv L) (hbase : base ≤ w.heap.size) (hb : Below w.heap.size w wq) (hnm : nm.size ≤ maxLen)
    (hx : IsX (fun b => w.heap.size ≤ b) wq d (tv k p n N (.slice q ln c)) x) (hg : wq.heap[g]? = some (.cells #[.string nm, .int .i64 k, .string p, .string n, .int .i64 N, .slice q ln c] 38 (0, 0))) (hL : L.length ≤ 100000) :
    ∃ v' w', (Builtin.append_ #[25, 25] 25 #[sv, .slice (some ⟨g, 0, none⟩) 1 1]).run Tryd.prog wq = .ok v' w' ∧ MadeV base w' d v' (L ++ [(nm, x)]) ∧ Below base wq w' := by
  obtain ⟨l, hl, ho, hd⟩ := h
  have hlt := ho.lt
  have hsz := hb.size
  obtain ⟨i, z, hi, hz, hs, hby, hzc⟩ := info38
  obtain ⟨v', w', r1, r2, r3, _, r5⟩ := run_append_own_at (P := Tryd.prog) (w := wq) base 25 25 38 i z 6 88 (by kernel_rfl) hi hz hs hby hzc (by decide) sv l.length (flatV l) (own_below ho hb) ⟨g, 0, none⟩ 1 1
    [.string nm, .int .i64 k, .string p, .string n, .int .i64 N, .slice q ln c] rfl
    (fun j u hu => by
      rw [add_zero_none, hb_cell hg]
      match j, hu with
      | 0, hu => exact hu
      | 1, hu => exact hu
      | 2, hu => exact hu
      | 3, hu => exact hu
      | 4, hu => exact hu
      | 5, hu => exact hu
      | j + 6, hu => simp at hu)
    (fun u hu => by
      simp only [List.mem_cons, List.not_mem_nil, or_false] at hu
      rcases hu with rfl | rfl | rfl | rfl | rfl | rfl <;> rfl)
    (by unfold maxLen; omega) (by omega) (by omega)
  exact ⟨v', w', r1, MadeV.next hl ho hd hb hnm (hx.move fun b hX hl2 => ⟨fun e => by have := hlt b e.symm; omega, rfl⟩) (fun _ _ => rfl) (Nat.le_refl _) r2 r3 r5, (Below.refl _ wq).grown r3 (by omega) (fun j hj => (hlt j hj).1)⟩
theorem IsX.leaf {X : Nat → Prop} {w : World} {d : Nat} {n : ByteArray} (hn : n.size ≤ maxLen) (hd : 1 ≤ d) : IsX X w d (tv 1 ⟨#[]⟩ n 0 (.slice none 0 0)) (vN n) := by
  obtain ⟨d, rfl⟩ : ∃ m, d = m + 1 := ⟨d - 1, by omega⟩
  exact ⟨none, 0, rfl, Nat.zero_le _, hn, Nat.zero_le _, fun i x hx => by simp at hx⟩
end Go.Proofs.YtncebhddcokkoaaDoor
/- UnifySolves: its walk. -/
namespace Go.Proofs.YtncebhddcokkoaaDoor
open Go.RowKit
set_option linter.unusedSimpArgs false
set_option linter.unusedVariables false
/-- What is answered of equations: a number, and a list. -/
def AnsQ (d : Nat) (E : List (Tm × Tm)) (k : Int) (L : List NT) : Prop := (k = 15 ∧ L = [] ∧ ¬ ∃ τ, SolE E τ) ∨
  ∃ σ, Best E (nmsE d E) σ ∧ ((k = 0 ∧ (L = (nmsE d E).map fun n => (n, σ n)) ∧ ∀ n ∈ nmsE d E, cnt2 (σ n) ≤ 1000) ∨ (k = 9 ∧ L = [] ∧ ∃ n ∈ nmsE d E, 1000 < cnt2 (σ n)))
theorem VAt.more {w : World} {d d' : Nat} {v : Value} {L : List NT} (h : VAt w d v L) (hd : d ≤ d') : VAt w d' v L := by
  obtain ⟨q, c, e, hl, h⟩ := h
  refine ⟨q, c, e, hl, fun i x hx => ?_⟩
  obtain ⟨g, k, p, n, N, s, h1, h2, h3, h4, h5⟩ := h i x hx
  exact ⟨g, k, p, n, N, s, h1, h2, h3, h4, h5.more hd⟩
theorem EqAt.more {w : World} {d d' : Nat} {v : Value} {E : List (Tm × Tm)} (h : EqAt w d v E) (hd : d ≤ d') : EqAt w d' v E := by
  obtain ⟨q, c, e, h⟩ := h
  refine ⟨q, c, e, fun i x hx => ?_⟩
  obtain ⟨g, o, k, p, n, N, s, k', p', n', N', s', h1, ⟨h2, h3⟩, h4, h5⟩ := h i x hx
  exact ⟨g, o, k, p, n, N, s, k', p', n', N', s', h1, ⟨h2, h3.more hd⟩, h4, h5.more hd⟩
def AnsR (d : Nat) (E : List (Tm × Tm)) (w : World) (e : Ending) (w' : World) : Prop := ∃ (q : Option Addr) (l c : Nat) (k : Int) (L : List NT), e = .returned (.tuple #[.slice q l c, .int .i64 k]) ∧ VAt w' 1002 (.slice q l c) L ∧ AnsQ d E k L ∧ Below w.heap.size w w'
theorem solveA_any (w : World) (d : Nat) (v : Value) (E : List (Tm × Tm)) (hE : EqAt w d v E) (hT : ∀ x ∈ E, Typ x.1 ∧ Typ x.2) (htot : tot d E ≤ 1000) (hel : E.length ≤ 1000) : Calls Tryd.prog 12 #[v] w (AnsR d E w) := by
  refine (solve_any w d v E hE hT htot hel).mono ?_
  rintro e w' ⟨hb, ⟨rfl, hno⟩ | ⟨σ, hB, ⟨v', rfl, hall, hv⟩ | ⟨rfl, hbig⟩⟩⟩
  · exact ⟨none, 0, 0, 15, [], rfl, VAt.nil _ _, .inl ⟨rfl, rfl, hno⟩, hb⟩
  · obtain ⟨q, c, rfl⟩ := hv.shape
    exact ⟨_, _, _, 0, _, rfl, hv.more (by decide), .inr ⟨σ, hB, .inl ⟨rfl, rfl, hall⟩⟩, hb⟩
  · exact ⟨none, 0, 0, 9, [], rfl, VAt.nil _ _, .inr ⟨σ, hB, .inr ⟨rfl, rfl, hbig⟩⟩, hb⟩
end Go.Proofs.YtncebhddcokkoaaDoor
/- Equations each of which makes a variable twice the next one: mathematics. -/
namespace Go.Proofs.YtncebhddcokkoaaDoor
open Go.RowKit
set_option linter.unusedSimpArgs false
set_option linter.unusedVariables false
def tn (i : Nat) : ByteArray := ⟨#[116, UInt8.ofNat (97 + i)]⟩
def ixT (m : ByteArray) : Nat := match m.data[1]? with
  | some b => b.toNat - 97
  | none => 0
theorem ixT_tn : ∀ i, i < 14 → ixT (tn i) = i := by decide +kernel
def eqD (i : Nat) : Tm × Tm := (vN (tn i), fun13 (vN (tn (i + 1))) (vN (tn (i + 1))))
def eqsD (n : Nat) : List (Tm × Tm) := (List.range n).map eqD
def eqsR (n : Nat) : List (Tm × Tm) := eqsD n ++ [(vN (tn n), vN (tn 0))]
theorem nms_D : ∀ n, n < 13 → 0 < n → nmsE 2 (eqsD n) = (List.range (n + 1)).map tn := by decide +kernel
theorem tot_D : ∀ n, n < 13 → tot 2 (eqsD n) ≤ 1000 ∧ tot 2 (eqsR n) ≤ 1000 := by decide +kernel
theorem eqsD_mem {n : Nat} {x : Tm × Tm} : x ∈ eqsD n ↔ ∃ i, i < n ∧ x = eqD i := by
  unfold eqsD
  rw [List.mem_map]
  constructor
  · rintro ⟨i, hi, rfl⟩; exact ⟨i, List.mem_range.1 hi, rfl⟩
  · rintro ⟨i, hi, rfl⟩; exact ⟨i, List.mem_range.2 hi, rfl⟩
theorem typ_D {n : Nat} : ∀ x ∈ eqsR n, Typ x.1 ∧ Typ x.2 := by
  intro x hx
  unfold eqsR at hx
  rcases List.mem_append.1 hx with hx | hx
  · obtain ⟨i, _, rfl⟩ := eqsD_mem.1 hx
    exact ⟨.var _, .con (.inr (.inl rfl)) fun y hy => by
      simp only [List.mem_cons, List.not_mem_nil, or_false] at hy
      rcases hy with rfl | rfl <;> exact .var _⟩
  · cases List.mem_singleton.1 hx
    exact ⟨.var _, .var _⟩
/-- What makes them the same makes each twice the next. -/
theorem eqD_so {σ : ByteArray → Tm} {i : Nat} (h : Eq2 σ (eqD i).1 (eqD i).2) : σ (tn i) = fun13 (σ (tn (i + 1))) (σ (tn (i + 1))) := by
  obtain ⟨u, h1, h2⟩ := h
  have e : σ (tn i) = u := So.det (So.var (p := ⟨#[]⟩) (N := 0) (l := [])) h1
  rw [e]
  refine h2.det (.con (by decide) rfl fun j x y hx hy => ?_)
  match j, hx, hy with
  | 0, hx, hy => cases hx; cases hy; exact .var
  | 1, hx, hy => cases hx; cases hy; exact .var
  | j + 2, hx, hy => simp at hx
/-- How many terms a tree has, at a depth. -/
theorem tsz_cnt : ∀ (d : Nat) (t : Tm), Dp d t → tszN d t = cnt2 t := by
  intro d
  induction d with
  | zero => intro t h; cases h
  | succ d ih =>
    intro t h
    obtain ⟨k, p, n, N, l⟩ := t
    rw [cnt2_eq]
    show l.foldl (fun n t => n + tszN d t) 1 = 1 + (l.map cnt2).sum
    rw [foldl_tot]
    congr 2
    exact List.map_congr_left fun x hx => ih x (h x hx)
theorem cnt_dbl (a b : Tm) : cnt2 (fun13 a b) = 1 + cnt2 a + cnt2 b := by
  unfold fun13
  rw [cnt2_eq]
  simp
  omega
/-- Sizes of a chain. -/
theorem chain_cnt {f : Nat → Nat} {n : Nat} (h : ∀ i, i < n → f i = 1 + f (i + 1) + f (i + 1)) : ∀ k, k ≤ n → f (n - k) + 1 = 2 ^ k * (f n + 1) := by
  intro k
  induction k with
  | zero => intro _; simp
  | succ k ih =>
    intro hk
    have h1 := ih (by omega)
    have h2 := h (n - (k + 1)) (by omega)
    have e : n - (k + 1) + 1 = n - k := by omega
    rw [e] at h2
    rw [Nat.pow_succ]
    have h3 : 2 ^ k * 2 * (f n + 1) = 2 * (2 ^ k * (f n + 1)) := by rw [Nat.mul_comm (2 ^ k) 2, Nat.mul_assoc]
    rw [h3, ← h1]
    omega
theorem ring_none {n : Nat} (hn : 0 < n) : ¬ ∃ τ, SolE (eqsR n) τ := by
  rintro ⟨τ, h⟩
  have h1 : ∀ i, i < n → cnt2 (τ (tn i)) = 1 + cnt2 (τ (tn (i + 1))) + cnt2 (τ (tn (i + 1))) := fun i hi => by
    rw [eqD_so (h (eqD i) (List.mem_append_left _ (eqsD_mem.2 ⟨i, hi, rfl⟩))), cnt_dbl]
  have h2 := chain_cnt (f := fun i => cnt2 (τ (tn i))) h1 n (Nat.le_refl _)
  rw [Nat.sub_self] at h2
  obtain ⟨u, h3, h4⟩ := h (vN (tn n), vN (tn 0)) (List.mem_append_right _ (by simp))
  have e1 : τ (tn n) = u := So.det (So.var (p := ⟨#[]⟩) (N := 0) (l := [])) h3
  have e2 : τ (tn 0) = u := So.det (So.var (p := ⟨#[]⟩) (N := 0) (l := [])) h4
  simp only [e1, e2] at h2
  have h5 : 2 ^ 1 ≤ 2 ^ n := Nat.pow_le_pow_right (by decide) hn
  have h6 : 2 * (cnt2 u + 1) ≤ 2 ^ n * (cnt2 u + 1) := Nat.mul_le_mul_right _ h5
  omega
/-- A solution. -/
def dbl (m : ByteArray) : Nat → Tm
  | 0 => vN m
  | k + 1 => fun13 (dbl m k) (dbl m k)
theorem dbl_sol {n : Nat} (hn : n < 13) : SolE (eqsD n) (fun m => dbl (tn n) (n - ixT m)) := by
  intro x hx
  obtain ⟨i, hi, rfl⟩ := eqsD_mem.1 hx
  refine ⟨dbl (tn n) (n - i), ?_, ?_⟩
  · have h := So.var (σ := fun m => dbl (tn n) (n - ixT m)) (p := ⟨#[]⟩) (n := tn i) (N := 0) (l := [])
    rw [ixT_tn i (by omega)] at h
    exact h
  · have e : n - i = n - (i + 1) + 1 := by omega
    rw [e]
    have h := So.var (σ := fun m => dbl (tn n) (n - ixT m)) (p := ⟨#[]⟩) (n := tn (i + 1)) (N := 0) (l := [])
    rw [ixT_tn (i + 1) (by omega)] at h
    refine .con (by decide) rfl fun j x y hx hy => ?_
    match j, hx, hy with
    | 0, hx, hy => cases hx; cases hy; exact h
    | 1, hx, hy => cases hx; cases hy; exact h
    | j + 2, hx, hy => simp at hx
theorem best_cnt {n : Nat} (hn : n < 13) (h0 : 0 < n) {σ : ByteArray → Tm} (h : Best (eqsD n) (nmsE 2 (eqsD n)) σ) : ∀ k, k ≤ n → cnt2 (σ (tn (n - k))) + 1 = 2 ^ (k + 1) := by
  have h1 : ∀ i, i < n → cnt2 (σ (tn i)) = 1 + cnt2 (σ (tn (i + 1))) + cnt2 (σ (tn (i + 1))) := fun i hi => by
    rw [eqD_so (h.sol (eqD i) (eqsD_mem.2 ⟨i, hi, rfl⟩)), cnt_dbl]
  have hmem : tn n ∈ nmsE 2 (eqsD n) := by rw [nms_D n hn h0]; exact List.mem_map.2 ⟨n, List.mem_range.2 (by omega), rfl⟩
  have h2 : cnt2 (σ (tn n)) = 1 := by
    have h3 := h.gen _ (dbl_sol hn) (tn n) hmem
    rw [ixT_tn n (by omega), Nat.sub_self] at h3
    have h4 := h.mgu.ty (tn n) hmem
    generalize σ (tn n) = t at h3 h4
    cases h4 with
    | var s => rw [cnt2_eq]; rfl
    | con hk _ =>
      rcases h3.inv rfl with ⟨e, _⟩ | ⟨_, m, e, _⟩
      · exact absurd e hk
      · injection e with e; exact absurd e.symm hk
  intro k hk
  have h3 := chain_cnt (f := fun i => cnt2 (σ (tn i))) h1 k hk
  simp only [h2] at h3
  rw [h3, Nat.pow_succ]
/-- What Solve answers of them. -/
theorem ans_D {n : Nat} (hn : n < 13) {k : Int} {L : List NT} (h : AnsQ 2 (eqsD n) k L) : (n = 0 ∧ k = 0) ∨ (0 < n ∧ 2 ^ (n + 1) - 1 ≤ 1000 ∧ k = 0 ∧ L.length = n + 1 ∧ ∃ nm t, L[0]? = some (nm, t) ∧ cnt2 t = 2 ^ (n + 1) - 1) ∨ (0 < n ∧ 1000 < 2 ^ (n + 1) - 1 ∧ k = 9) := by
  by_cases h0 : n = 0
  · subst h0
    left
    refine ⟨rfl, ?_⟩
    rcases h with ⟨_, _, hno⟩ | ⟨σ, hB, ⟨h1, _⟩ | ⟨_, _, m, hm, _⟩⟩
    · exact absurd ⟨fun m => vN m, fun e he => by cases he⟩ hno
    · exact h1
    · cases hm
  · right
    have hp : 0 < n := Nat.pos_of_ne_zero h0
    rcases h with ⟨_, _, hno⟩ | ⟨σ, hB, h⟩
    · exact absurd ⟨_, dbl_sol hn⟩ hno
    · have hc := best_cnt hn hp hB
      have h9 := hc n (Nat.le_refl _)
      rw [Nat.sub_self] at h9
      have hall : ∀ m ∈ nmsE 2 (eqsD n), cnt2 (σ m) ≤ cnt2 (σ (tn 0)) := by
        intro m hm
        rw [nms_D n hn hp] at hm
        obtain ⟨i, hi, rfl⟩ := List.mem_map.1 hm
        have hi := List.mem_range.1 hi
        have h1 := hc (n - i) (by omega)
        have e : n - (n - i) = i := by omega
        rw [e] at h1
        have h2 : 2 ^ (n - i + 1) ≤ 2 ^ (n + 1) := Nat.pow_le_pow_right (by decide) (by omega)
        omega
      rcases h with ⟨rfl, rfl, hle⟩ | ⟨rfl, rfl, m, hm, hbig⟩
      · left
        have hm0 : tn 0 ∈ nmsE 2 (eqsD n) := by rw [nms_D n hn hp]; exact List.mem_map.2 ⟨0, List.mem_range.2 (by omega), rfl⟩
        have := hle _ hm0
        refine ⟨hp, by omega, rfl, by rw [List.length_map, nms_D n hn hp]; simp, tn 0, σ (tn 0), ?_, by omega⟩
        rw [nms_D n hn hp]
        simp
      · right
        have := hall m hm
        exact ⟨hp, by omega, rfl⟩
theorem ans_R {n : Nat} (h0 : 0 < n) {k : Int} {L : List NT} (h : AnsQ 2 (eqsR n) k L) : k = 15 := by
  rcases h with ⟨h, _⟩ | ⟨σ, hB, _⟩
  · exact h
  · exact absurd ⟨σ, hB.sol⟩ (ring_none h0)
end Go.Proofs.YtncebhddcokkoaaDoor
