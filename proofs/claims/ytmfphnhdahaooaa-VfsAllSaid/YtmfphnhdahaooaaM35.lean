/- The texts Le, one behind the other. -/
import Derived.Test.YtmfphnhdahaooaaM33
import Derived.Test.YtmfphnhdahaooaaM34
import Derived.Deep.Slices
import Derived.Deep.Fields
import Derived.ChangeSame
import Derived.ChangeSlices
import Derived.SizedLaws
import Derived.Lib.SmallJoins
set_option linter.unusedSimpArgs false
set_option linter.unusedVariables false
/- Acts as arguments. -/
namespace Go.Proofs.Ytmfphnhdahaooaa
open Go.ChangeShapes Go.WideShapes Go.ChangeAt Go.RowKit Go.Joins Go.Deep
set_option linter.unusedVariables false
set_option linter.unusedSimpArgs false
theorem pick_list {α : Type} {P : Nat → α → Prop} (n : Nat) (h : ∀ i, i < n → ∃ x, P i x) : ∃ l : List α, l.length = n ∧ ∀ i x, l[i]? = some x → P i x := by
  induction n with
  | zero => exact ⟨[], rfl, fun i x hx => by simp at hx⟩
  | succ n ih =>
    obtain ⟨l, hl, hp⟩ := ih fun i hi => h i (by omega)
    obtain ⟨x, hx⟩ := h n (by omega)
    refine ⟨l ++ [x], by simp [hl], fun i y hy => ?_⟩
    rcases Nat.lt_or_ge i l.length with hi | hi
    · rw [List.getElem?_append_left hi] at hy
      exact hp i y hy
    · rw [List.getElem?_append_right hi] at hy
      have e : i - l.length = 0 := by
        rcases Nat.eq_zero_or_pos (i - l.length) with h0 | h0
        · exact h0
        · rw [List.getElem?_eq_none (by simp; omega)] at hy
          cases hy
      rw [e] at hy
      obtain rfl := Option.some.inj hy
      have e2 : i = n := by omega
      subst e2
      exact hx
theorem c3 : Try.prog.cellsOf 3 = 1 := by kernel_rfl
theorem c4 : Try.prog.cellsOf 4 = 1 := by kernel_rfl
theorem c5 : Try.prog.cellsOf 5 = 1 := by kernel_rfl
theorem c9 : Try.prog.cellsOf 9 = 1 := by kernel_rfl
theorem c36 : Try.prog.cellsOf 36 = 1 := by kernel_rfl
theorem c37 : Try.prog.cellsOf 37 = 1 := by kernel_rfl
theorem c39 : Try.prog.cellsOf 39 = 8 := by kernel_rfl
theorem c58 : Try.prog.cellsOf 58 = 3 := by kernel_rfl
theorem b3 : Try.prog.bytesOf 3 = 8 := by kernel_rfl
theorem list3 {α : Type} {cs : List α} (h : cs.length = 3) : ∃ c0 c1 c2, cs = [c0, c1, c2] := by
  match cs, h with
  | [c0, c1, c2], _ => exact ⟨c0, c1, c2, rfl⟩
theorem list8 {α : Type} {cs : List α} (h : cs.length = 8) : ∃ c0 c1 c2 c3 c4 c5 c6 c7, cs = [c0, c1, c2, c3, c4, c5, c6, c7] := by
  match cs, h with
  | [c0, c1, c2, c3, c4, c5, c6, c7], _ => exact ⟨c0, c1, c2, c3, c4, c5, c6, c7, rfl⟩
theorem spot_none {w : World} {a : Addr} {v : Value} (h : w.cell? (a.add 0) = some v) : ∃ b o, a = ⟨b, o, none⟩ := by
  have h1 := World.cell?_spot h
  obtain ⟨b1, o1, sp⟩ := a
  have h2 : sp = none := by simpa [Addr.add] using h1
  exact ⟨b1, o1, by rw [h2]⟩
theorem weights_all {H : Type} {P : Program} {e : TypeId} {d : DataW H} : ∀ {l : List (DataW H)}, d ∈ l → ∀ n ∈ DataW.weights P e d, n ∈ DataW.weightsAll P e l
  | [], h, _, _ => by cases h
  | x :: l, h, n, hn => by
    rw [DataW.weightsAll, List.mem_append]
    rcases List.mem_cons.1 h with rfl | h
    · exact .inl hn
    · exact .inr (weights_all h n hn)
/-- What is weighed takes no more than there is. -/
def Fits {H : Type} (t : TypeId) (d : DataW H) : Prop := ∀ n ∈ DataW.weights Try.prog t d, n ≤ 140737488351232
section
variable {H : Type} {enc : TypeId × Value → H} {W : World} {base : Nat} {v : Value} {d : DataW H} {p : List MemPlace}
theorem rd_int {n : Nat} {a : Value} {y : DataW H × List MemPlace} (h : DataW.trod enc Try.prog W 0 (fun _ => true) true n 3 [a] = some y) : ∃ z : Int, a = .int .i64 z ∧ (Lit.int .i64 z).wf = true := by
  obtain ⟨z, e, _, w⟩ := DataW.trod_int Try.underlying3 h
  simp at e
  exact ⟨z, e, w⟩
theorem rd_byte {n : Nat} {a : Value} {y : DataW H × List MemPlace} (h : DataW.trod enc Try.prog W 0 (fun _ => true) true n 5 [a] = some y) : ∃ z : Int, a = .int .u8 z := by
  obtain ⟨z, e, _, w⟩ := DataW.trod_int Try.underlying5 h
  simp at e
  exact ⟨z, e⟩
theorem rd_bool {n : Nat} {a : Value} {y : DataW H × List MemPlace} (h : DataW.trod enc Try.prog W 0 (fun _ => true) true n 4 [a] = some y) : ∃ z : Bool, a = .bool z := by
  obtain ⟨z, e, _⟩ := DataW.trod_bool Try.underlying4 h
  simp at e
  exact ⟨z, e⟩
theorem rd_str {n : Nat} {a : Value} {y : DataW H × List MemPlace} (h : DataW.trod enc Try.prog W 0 (fun _ => true) true n 9 [a] = some y) : ∃ s : ByteArray, a = .string s ∧ s.size ≤ maxLen := by
  obtain ⟨s, e, hy, w⟩ := DataW.trod_string Try.underlying9 h
  simp at e
  exact ⟨s, e, w⟩
theorem wf_num {z : Int} (h : (Lit.int .i64 z).wf = true) : NumOk z := bounds_i64 h
theorem rd_ints {n : Nat} {a : Value} {y : DataW H × List MemPlace} (h : DataW.trod enc Try.prog W 0 (fun _ => true) true n 36 [a] = some y) (hf : Fits 36 y.1) : ∃ (q : Option Addr) (c : Nat) (zs : List Int), a = .slice q zs.length c ∧ RowI W q zs ∧ zs.length ≤ maxLen ∧ zs.length ≤ manyZ := by
  rcases open_slice1 Try.underlying36 c3 h with ⟨hcs, _⟩ | ⟨b, len, cap, m, n, V, D, Pl, hcs, _, hl, hm, hmm, hx, hi⟩
  · obtain rfl := (List.cons.inj hcs).1
    exact ⟨none, 0, [], rfl, fun i x hx => by simp at hx, Nat.zero_le _, Nat.zero_le _⟩
  · obtain rfl := (List.cons.inj hcs).1
    have hm2 : m = cap := by simpa using hmm
    have hw : len * 8 ≤ 140737488351232 := by
      have h1 := hf ((len + (m - len)) * 8) (by rw [hx]; simp [DataW.weights, Try.underlying36, b3])
      omega
    by_cases hz : len = 0
    · subst hz
      exact ⟨some b, cap, [], rfl, fun i x hx => by simp at hx, Nat.zero_le _, Nat.zero_le _⟩
    obtain ⟨b1, o1, rfl⟩ := spot_none (hi 0 (by omega)).1
    obtain ⟨zs, hll, hp⟩ := pick_list (P := fun (i : Nat) (z : Int) => (Lit.int .i64 z).wf = true ∧ W.cell? ⟨b1, o1 + i, none⟩ = some (.int .i64 z)) len (fun i hi2 => by
      obtain ⟨h1, h2⟩ := hi i (by omega)
      obtain ⟨z, e, hwf⟩ := rd_int h2
      rw [e, Addr.add_lit] at h1
      exact ⟨z, hwf, h1⟩)
    exact ⟨some ⟨b1, o1, none⟩, cap, zs, by rw [hll], fun i x hx => ⟨(hp i x hx).1, b1, o1, rfl, (hp i x hx).2⟩, by omega, by unfold manyZ; omega⟩
theorem rd_sv {n : Nat} {a b c : Value} {y : DataW H × List MemPlace} (h : DataW.trod enc Try.prog W 0 (fun _ => true) true n 58 [a, b, c] = some y) (hf : Fits 58 y.1) : ∃ x : Sv, a = .string x.name ∧ b = .slice x.ao x.zs.length x.c ∧ c = .bool x.long ∧ x.name.size ≤ maxLen ∧ RowI W x.ao x.zs ∧ x.zs.length ≤ manyZ := by
  obtain ⟨y0, y1, y2, m, hy, _, h0, h1, h2⟩ := trod_struct3 Try.underlying58 h
  simp only [c9, c36, c4] at h0 h1 h2
  obtain ⟨z0, e0, w0⟩ := rd_str h0
  obtain ⟨q, cc, zs, e1, hr, _, hz⟩ := rd_ints h1 (fun k hk => hf k (by rw [hy]; simp [DataW.weights, DataW.weightsEach, Try.underlying58, hk]))
  obtain ⟨z2, e2⟩ := rd_bool h2
  exact ⟨⟨z0, q, cc, zs, z2⟩, e0, e1, e2, w0, hr, hz⟩
theorem rd_svs {n : Nat} {a : Value} {y : DataW H × List MemPlace} (h : DataW.trod enc Try.prog W 0 (fun _ => true) true n 37 [a] = some y) (hf : Fits 37 y.1) : ∃ (q : Option Addr) (c : Nat) (l : List Sv), a = .slice q l.length c ∧ RowF W q l ∧ l.length ≤ maxLen := by
  rcases open_slice Try.underlying37 h with ⟨hcs, _⟩ | ⟨b, len, cap, m, n, D, Pl, hcs, _, hl, hm, hmm, hx, hi⟩
  · obtain rfl := (List.cons.inj hcs).1
    exact ⟨none, 0, [], rfl, fun i x hx => by simp at hx, Nat.zero_le _⟩
  · obtain rfl := (List.cons.inj hcs).1
    have hm2 : m = cap := by simpa using hmm
    by_cases hz : len = 0
    · subst hz
      exact ⟨some b, cap, [], rfl, fun i x hx => by simp at hx, Nat.zero_le _⟩
    obtain ⟨b1, o1, rfl⟩ : ∃ b1 o1, b = ⟨b1, o1, none⟩ := by
      obtain ⟨cs, hc, _⟩ := hi 0 (by omega)
      simp only [c58] at hc
      obtain ⟨_, hcl, hat⟩ := World.cells?_some hc
      have h0 := hat 0 (by omega)
      rw [List.getElem?_eq_getElem (by omega)] at h0
      have h1 := World.cell?_spot h0
      obtain ⟨b1, o1, sp⟩ := b
      have h2 : sp = none := by simpa [Addr.add] using h1
      exact ⟨b1, o1, by rw [h2]⟩
    obtain ⟨l, hll, hp⟩ := pick_list (P := fun (i : Nat) (x : Sv) => x.name.size ≤ maxLen ∧ RowI W x.ao x.zs ∧ x.zs.length ≤ manyZ ∧ W.cell? ⟨b1, o1 + i * 3, none⟩ = some (.string x.name) ∧ W.cell? ⟨b1, o1 + i * 3 + 1, none⟩ = some (.slice x.ao x.zs.length x.c) ∧ W.cell? ⟨b1, o1 + i * 3 + 2, none⟩ = some (.bool x.long)) len (fun i hi2 => by
      obtain ⟨cs, hc, ht⟩ := hi i (by omega)
      simp only [c58] at hc
      obtain ⟨_, hcl, hat⟩ := World.cells?_some hc
      obtain ⟨x0, x1, x2, rfl⟩ := list3 hcl
      obtain ⟨x, rfl, rfl, rfl, h1, h2, h3⟩ := rd_sv ht (fun k hk => hf k (by
        rw [hx, DataW.weights, Try.underlying37]
        exact List.mem_cons_of_mem _ (List.mem_append.2 (.inl (weights_all (List.mem_map.2 ⟨i, List.mem_range.2 hi2, rfl⟩) k hk)))))
      have q0 := hat 0 (by omega)
      have q1 := hat 1 (by omega)
      have q2 := hat 2 (by omega)
      simp only [Addr.add_lit, Nat.add_zero] at q0 q1 q2
      exact ⟨x, h1, h2, h3, q0, q1, q2⟩)
    exact ⟨some ⟨b1, o1, none⟩, cap, l, by rw [hll], fun i x hx => by
      obtain ⟨h1, h2, h3, h4, h5, h6⟩ := hp i x hx
      exact ⟨h1, h2, h3, b1, o1, rfl, h4, h5, h6⟩, by omega⟩
theorem weights39 (L : List (DataW H)) : DataW.weights Try.prog 39 (.agg L) = DataW.weightsEach Try.prog [3, 9, 9, 3, 3, 5, 36, 37] L := by
  rw [DataW.weights, Try.underlying39]
  rfl
set_option maxRecDepth 100000 in
theorem rd_act {n : Nat} {x0 x1 x2 x3 x4 x5 x6 x7 : Value} {y : DataW H × List MemPlace} (h : DataW.trod enc Try.prog W 0 (fun _ => true) true n 39 [x0, x1, x2, x3, x4, x5, x6, x7] = some y) (hf : Fits 39 y.1) : ∃ a : Ac, acC a = #[x0, x1, x2, x3, x4, x5, x6, x7] ∧ AcArg W a := by
  obtain ⟨ys, m, _, hy, _, hys, hfs⟩ := DataW.trod_struct Try.underlying39 h
  have hy8 : ys.length = 8 := hys
  have g0 : DataW.trod enc Try.prog W 0 (fun _ => true) true m 3 (([x0, x1, x2, x3, x4, x5, x6, x7].drop 0).take (Try.prog.cellsOf 3)) = ys[0]? := hfs 0 _ rfl
  have g1 : DataW.trod enc Try.prog W 0 (fun _ => true) true m 9 (([x0, x1, x2, x3, x4, x5, x6, x7].drop 1).take (Try.prog.cellsOf 9)) = ys[1]? := hfs 1 _ rfl
  have g2 : DataW.trod enc Try.prog W 0 (fun _ => true) true m 9 (([x0, x1, x2, x3, x4, x5, x6, x7].drop 2).take (Try.prog.cellsOf 9)) = ys[2]? := hfs 2 _ rfl
  have g3 : DataW.trod enc Try.prog W 0 (fun _ => true) true m 3 (([x0, x1, x2, x3, x4, x5, x6, x7].drop 3).take (Try.prog.cellsOf 3)) = ys[3]? := hfs 3 _ rfl
  have g4 : DataW.trod enc Try.prog W 0 (fun _ => true) true m 3 (([x0, x1, x2, x3, x4, x5, x6, x7].drop 4).take (Try.prog.cellsOf 3)) = ys[4]? := hfs 4 _ rfl
  have g5 : DataW.trod enc Try.prog W 0 (fun _ => true) true m 5 (([x0, x1, x2, x3, x4, x5, x6, x7].drop 5).take (Try.prog.cellsOf 5)) = ys[5]? := hfs 5 _ rfl
  have g6 : DataW.trod enc Try.prog W 0 (fun _ => true) true m 36 (([x0, x1, x2, x3, x4, x5, x6, x7].drop 6).take (Try.prog.cellsOf 36)) = ys[6]? := hfs 6 _ rfl
  have g7 : DataW.trod enc Try.prog W 0 (fun _ => true) true m 37 (([x0, x1, x2, x3, x4, x5, x6, x7].drop 7).take (Try.prog.cellsOf 37)) = ys[7]? := hfs 7 _ rfl
  have hyl : ∀ (k : Nat) (hk : k < 8) (t : TypeId), [3, 9, 9, 3, 3, 5, 36, 37][k]? = some t → Fits t (ys[k]'(by omega)).1 := fun k hk t ht j hj => hf j (by
    rw [hy, weights39]
    exact DataW.weights_mem_each (j := k) ht (by rw [List.getElem?_map, List.getElem?_eq_getElem (by omega)]; rfl) j hj)
  rw [List.getElem?_eq_getElem (by omega)] at g0 g1 g2 g3 g4 g5 g6 g7
  simp only [c3, c9, c5, c36, c37] at g0 g1 g2 g3 g4 g5 g6 g7
  obtain ⟨z0, e0, _⟩ := rd_int g0
  obtain ⟨z1, e1, w1⟩ := rd_str g1
  obtain ⟨z2, e2, w2⟩ := rd_str g2
  obtain ⟨z3, e3, w3⟩ := rd_int g3
  obtain ⟨z4, e4, w4⟩ := rd_int g4
  obtain ⟨z5, e5⟩ := rd_byte g5
  obtain ⟨q6, c6, zs, e6, r6, l6, _⟩ := rd_ints g6 (hyl 6 (by omega) 36 rfl)
  obtain ⟨q7, c7, fl, e7, r7, l7⟩ := rd_svs g7 (hyl 7 (by omega) 37 rfl)
  exact ⟨⟨z0, z1, z2, z3, z4, z5, q6, zs, c6, q7, fl, c7⟩, by unfold acC; rw [e0, e1, e2, e3, e4, e5, e6, e7], ⟨wf_num w3, wf_num w4⟩, w1, w2, r6, l6, r7, l7⟩
set_option maxRecDepth 100000 in
theorem arg_act (hval : Value.okWide Try.prog W .any base 39 v) (h : DataW.Trod enc Try.prog W 0 (fun _ => true) true 39 v d p) (hf : Fits 39 d) : ∃ a : Ac, v = .agg (acC a) ∧ AcArg W a := by
  obtain ⟨cs, rfl, hsz⟩ := okWide_struct Try.underlying39 hval
  obtain ⟨l⟩ := cs
  obtain ⟨x0, x1, x2, x3, x4, x5, x6, x7, rfl⟩ := list8 (show l.length = 8 from hsz.trans c39)
  obtain ⟨fuel, hf2⟩ := h
  obtain ⟨a, e, ha⟩ := rd_act hf2 hf
  exact ⟨a, by rw [e], ha⟩
theorem rd_acts {n : Nat} {a : Value} {y : DataW H × List MemPlace} (h : DataW.trod enc Try.prog W 0 (fun _ => true) true n 22 [a] = some y) (hf : Fits 22 y.1) : ∃ (q : Option Addr) (c : Nat) (l : List Ac), a = .slice q l.length c ∧ RowAc W q l ∧ l.length ≤ maxLen := by
  rcases open_slice Try.underlying22 h with ⟨hcs, _⟩ | ⟨b, len, cap, m, n, D, Pl, hcs, _, hl, hm, hmm, hx, hi⟩
  · obtain rfl := (List.cons.inj hcs).1
    exact ⟨none, 0, [], rfl, fun i x hx => by simp at hx, Nat.zero_le _⟩
  · obtain rfl := (List.cons.inj hcs).1
    have hm2 : m = cap := by simpa using hmm
    by_cases hz : len = 0
    · subst hz
      exact ⟨some b, cap, [], rfl, fun i x hx => by simp at hx, Nat.zero_le _⟩
    obtain ⟨b1, o1, rfl⟩ : ∃ b1 o1, b = ⟨b1, o1, none⟩ := by
      obtain ⟨cs, hc, _⟩ := hi 0 (by omega)
      simp only [c39] at hc
      obtain ⟨_, hcl, hat⟩ := World.cells?_some hc
      have h0 := hat 0 (by omega)
      rw [List.getElem?_eq_getElem (by omega)] at h0
      have h1 := World.cell?_spot h0
      obtain ⟨b1, o1, sp⟩ := b
      have h2 : sp = none := by simpa [Addr.add] using h1
      exact ⟨b1, o1, by rw [h2]⟩
    obtain ⟨l, hll, hp⟩ := pick_list (P := fun (i : Nat) (x : Ac) => AcArg W x ∧ ∀ j u, (acC x)[j]? = some u → W.cell? ⟨b1, o1 + i * 8 + j, none⟩ = some u) len (fun i hi2 => by
      obtain ⟨cs, hc, ht⟩ := hi i (by omega)
      simp only [c39] at hc
      obtain ⟨_, hcl, hat⟩ := World.cells?_some hc
      obtain ⟨x0, x1, x2, x3, x4, x5, x6, x7, rfl⟩ := list8 hcl
      obtain ⟨x, hxe, hxa⟩ := rd_act ht (fun k hk => hf k (by
        rw [hx, DataW.weights, Try.underlying22]
        exact List.mem_cons_of_mem _ (List.mem_append.2 (.inl (weights_all (List.mem_map.2 ⟨i, List.mem_range.2 hi2, rfl⟩) k hk)))))
      refine ⟨x, hxa, fun j u hu => ?_⟩
      rw [hxe] at hu
      have hj : j < 8 := by
        have := (Array.getElem?_eq_some_iff.1 hu).1
        simpa using this
      have q := hat j (by omega)
      simp only [Addr.add_lit, Nat.add_zero] at q
      rw [← hu, q]
      exact (List.getElem?_toArray ..).symm)
    exact ⟨some ⟨b1, o1, none⟩, cap, l, by rw [hll], fun i x hx => by
      obtain ⟨h1, h2⟩ := hp i x hx
      exact ⟨h1.nums, h1.name, h1.dst, h1.turns, h1.len, h1.files, h1.flen, b1, o1, rfl, h2 0 _ rfl, h2 1 _ rfl, h2 2 _ rfl, h2 3 _ rfl, h2 4 _ rfl, h2 5 _ rfl, h2 6 _ rfl, h2 7 _ rfl⟩, by omega⟩
set_option maxRecDepth 100000 in
theorem arg_acts (hval : Value.okWide Try.prog W .any base 22 v) (h : DataW.Trod enc Try.prog W 0 (fun _ => true) true 22 v d p) (hf : Fits 22 d) : ∃ (q : Option Addr) (c : Nat) (l : List Ac), v = .slice q l.length c ∧ RowAc W q l ∧ l.length ≤ maxLen := by
  obtain ⟨a, len, cap, rfl⟩ := okWide_slice Try.underlying22 hval
  obtain ⟨fuel, hf2⟩ := h
  exact rd_acts hf2 hf
set_option maxRecDepth 100000 in
theorem arg_svs (hval : Value.okWide Try.prog W .any base 37 v) (h : DataW.Trod enc Try.prog W 0 (fun _ => true) true 37 v d p) (hf : Fits 37 d) : ∃ (q : Option Addr) (c : Nat) (l : List Sv), v = .slice q l.length c ∧ RowF W q l ∧ l.length ≤ maxLen := by
  obtain ⟨a, len, cap, rfl⟩ := okWide_slice Try.underlying37 hval
  obtain ⟨fuel, hf2⟩ := h
  exact rd_svs hf2 hf
theorem fits_of {ts : List TypeId} {ds : List (DataW H)} (hsz : (DataW.weightsEach Try.prog ts ds).all (· ≤ reachBytes) = true) {j : Nat} {t : TypeId} {d : DataW H} (ht : ts[j]? = some t) (hd : ds[j]? = some d) : Fits t d := fun n hn => by
  have := List.all_eq_true.1 hsz _ (DataW.weights_mem_each ht hd n hn)
  exact of_decide_eq_true this
end
end Go.Proofs.Ytmfphnhdahaooaa
