/- For every answer CommandAnswers: an answer as an argument; the guard's sum; what few bytes make few. -/
import Derived.Test.YtfbfdkjimoomlaaU9
import Derived.Deep.Slices
import Derived.Deep.Fields
import Derived.ChangeSame
namespace Go.Proofs.Ytfbfdkjimoomlaa
open Go.ChangeShapes Go.WideShapes Go.ChangeAt Go.RowKit Go.Joins Go.Deep
namespace Cm
open Cx Sv
def mn (s : ByteArray) : Nat := if 100000 < s.size then 100000 else s.size
def psum : List Pn → Nat
  | [] => 0
  | x :: l => mn x.p + psum l
theorem mn_le (s : ByteArray) : mn s ≤ 100000 := by unfold mn; split <;> omega
theorem mn_if (s : ByteArray) : (if (100000 : Int) < (s.size : Int) then (100000 : Int) else (s.size : Int)) = ((mn s : Nat) : Int) := by
  unfold mn
  by_cases h : 100000 < s.size
  · rw [if_pos h, if_pos (by omega)]; rfl
  · rw [if_neg h, if_neg (by omega)]
theorem mn_small {s : ByteArray} (h : mn s ≤ 4000) : s.size = mn s := by
  unfold mn at h ⊢
  split at h <;> rename_i h2
  · omega
  · rw [if_neg h2]
theorem psum_snoc (l : List Pn) (k : Nat) (h : k < l.length) : psum (l.take (k + 1)) = psum (l.take k) + mn l[k].p := by
  induction l generalizing k with
  | nil => simp at h
  | cons x l ih =>
    cases k with
    | zero => simp [psum]
    | succ k =>
      have := ih k (by simpa using h)
      simp only [List.take_succ_cons, psum, List.getElem_cons_succ]
      omega
theorem psum_le (l : List Pn) (k : Nat) : psum (l.take k) ≤ 100000 * k := by
  induction l generalizing k with
  | nil => simp [psum]
  | cons x l ih =>
    cases k with
    | zero => simp [psum]
    | succ k =>
      have := ih k
      have := mn_le x.p
      simp only [List.take_succ_cons, psum]
      omega
theorem zg_len {n : Int} (h : i64 n) : (zg n).length ≤ 10 := uv_small _ (zig_lt n h.1 h.2)
theorem txt_le {s : ByteArray} (h : s.size ≤ 4000) : (txt s).length ≤ 10 + s.size := by
  have := uv_small s.size (by omega)
  unfold txt
  rw [List.length_append]
  have : s.data.toList.length = s.size := by simp
  omega
theorem many_pins (l : List Pn) (h : ∀ x ∈ l, i64 x.v.a ∧ i64 x.v.b ∧ i64 x.v.c) (hs : psum l ≤ 4000) : (many pinZ l).length ≤ 40 * l.length + psum l ∧ ∀ x ∈ l, x.p.size ≤ 4000 := by
  induction l with
  | nil => exact ⟨by simp [many], fun x hx => by cases hx⟩
  | cons y l ih =>
    have e0 : psum (y :: l) = mn y.p + psum l := rfl
    have hy := mn_small (s := y.p) (by omega)
    obtain ⟨h1, h2⟩ := ih (fun x hx => h x (List.mem_cons_of_mem _ hx)) (by omega)
    obtain ⟨i1, i2, i3⟩ := h y (by simp)
    have e : (many pinZ (y :: l)).length = (pinZ y).length + (many pinZ l).length := by show (pinZ y ++ many pinZ l).length = _; rw [List.length_append]
    have e2 : (pinZ y).length = (txt y.p).length + ((zg y.v.a).length + ((zg y.v.b).length + (zg y.v.c).length)) := by unfold pinZ; simp only [List.length_append]
    have := txt_le (s := y.p) (by omega)
    have := zg_len i1
    have := zg_len i2
    have := zg_len i3
    refine ⟨by rw [List.length_cons]; omega, fun x hx => ?_⟩
    rcases List.mem_cons.1 hx with rfl | hx
    · omega
    · exact h2 x hx
structure anI (a : An) : Prop where
  e : i64 a.e
  t : i64 a.t
  g : i64 a.g
  k : i64 a.k
  ps : ∀ x ∈ a.ps, i64 x.v.a ∧ i64 x.v.b ∧ i64 x.v.c
  r1 : i64 a.r1
  r2 : i64 a.r2
  r3 : i64 a.r3
  r4 : i64 a.r4
theorem few_ok (a : An) (h : anI a) (hp : a.ps.length ≤ 100) (hn : mn a.tx + mn a.cn + mn a.cc + psum a.ps ≤ 4000) : anOk a ∧ (toldB a).length ≤ 100000 := by
  obtain ⟨m1, m2⟩ := many_pins a.ps h.ps (by omega)
  have t1 := mn_small (s := a.tx) (by omega)
  have t2 := mn_small (s := a.cn) (by omega)
  have t3 := mn_small (s := a.cc) (by omega)
  refine ⟨⟨h.e, h.t, h.g, h.k, by omega, by omega, by omega, fun x hx => ⟨by have := m2 x hx; omega, h.ps x hx⟩, by omega, h.r1, h.r2, h.r3, h.r4⟩, ?_⟩
  have := txt_le (s := a.tx) (by omega)
  have := txt_le (s := a.cn) (by omega)
  have := txt_le (s := a.cc) (by omega)
  have := zg_len h.e
  have := zg_len h.t
  have := zg_len h.g
  have := zg_len h.k
  have := zg_len h.r1
  have := zg_len h.r2
  have := zg_len h.r3
  have := zg_len h.r4
  have := uv_small a.ps.length (by omega)
  have := uv_small (yn a.y) (by unfold yn; split <;> decide)
  unfold toldB
  simp only [List.length_append]
  omega
end Cm
theorem pick_list {α : Type} {P : Nat → α → Prop} (n : Nat) (h : ∀ i, i < n → ∃ x, P i x) : ∃ l : List α, l.length = n ∧ ∀ i x, l[i]? = some x → P i x := by
  induction n with
  | zero => exact ⟨[], rfl, fun i x hx => by simp at hx⟩
  | succ n ih =>
    obtain ⟨l, hl, hp⟩ := ih fun i hi => h i (by omega)
    obtain ⟨x, hx⟩ := h n (by omega)
    refine ⟨l ++ [x], by simp [hl], fun i y hy => ?_⟩
    rcases Nat.lt_or_ge i l.length with hi | hi
    · rw [List.getElem?_append_left hi] at hy
      exact hp i y hy
    · rw [List.getElem?_append_right hi] at hy
      have e : i - l.length = 0 := by
        rcases Nat.eq_zero_or_pos (i - l.length) with h0 | h0
        · exact h0
        · rw [List.getElem?_eq_none (by simp; omega)] at hy
          cases hy
      rw [e] at hy
      obtain rfl := Option.some.inj hy
      have e2 : i = n := by omega
      subst e2
      exact hx
theorem k4 : Try.prog.cellsOf 4 = 1 := by kernel_rfl
theorem k29 : Try.prog.cellsOf 29 = 1 := by kernel_rfl
theorem k44 : Try.prog.cellsOf 44 = 3 := by kernel_rfl
theorem k45 : Try.prog.cellsOf 45 = 1 := by kernel_rfl
theorem k47 : Try.prog.cellsOf 47 = 4 := by kernel_rfl
theorem k49 : Try.prog.cellsOf 49 = 13 := by kernel_rfl
theorem array13 {α : Type} {cs : Array α} (h : cs.size = 13) : ∃ c0 c1 c2 c3 c4 c5 c6 c7 c8 c9 c10 c11 c12, cs = #[c0, c1, c2, c3, c4, c5, c6, c7, c8, c9, c10, c11, c12] := by
  obtain ⟨l⟩ := cs
  match l, h with
  | [c0, c1, c2, c3, c4, c5, c6, c7, c8, c9, c10, c11, c12], _ => exact ⟨c0, c1, c2, c3, c4, c5, c6, c7, c8, c9, c10, c11, c12, rfl⟩
theorem pcAt_of {w : World} {b o i : Nat} {x : Cm.Pn} (h0 : w.cell? (((⟨b, o, none⟩ : Addr).add (i * 4)).add 0) = some (.string x.p)) (h1 : w.cell? (((⟨b, o, none⟩ : Addr).add (i * 4)).add 1) = some (.int .i64 x.v.a))
    (h2 : w.cell? (((⟨b, o, none⟩ : Addr).add (i * 4)).add 2) = some (.int .i64 x.v.b)) (h3 : w.cell? (((⟨b, o, none⟩ : Addr).add (i * 4)).add 3) = some (.int .i64 x.v.c)) : PcAt w b (o + i * 4) x := by
  simp only [Addr.add_lit, Nat.add_zero] at h0 h1 h2 h3
  exact ⟨h0, h1, h2, h3⟩
section
variable {H : Type} {enc : TypeId × Value → H} {W : World} {base : Nat} {v : Value} {d : DataW H} {p : List MemPlace}
theorem rd_err {n : Nat} {a : Value} {y : DataW H × List MemPlace} (h : DataW.trod enc Try.prog W 0 (fun _ => true) true n 29 [a] = some y) : ∃ z : Int, a = .int .i64 z ∧ (-9223372036854775808 ≤ z ∧ z ≤ 9223372036854775807) := by
  obtain ⟨z, e, _, w⟩ := DataW.trod_int Try.underlying29 h
  simp at e
  exact ⟨z, e, bounds_i64 w⟩
theorem rd_bool {n : Nat} {a : Value} {y : DataW H × List MemPlace} (h : DataW.trod enc Try.prog W 0 (fun _ => true) true n 4 [a] = some y) : ∃ z : Bool, a = .bool z := by
  obtain ⟨z, e, _⟩ := DataW.trod_bool Try.underlying4 h
  simp at e
  exact ⟨z, e⟩
set_option maxRecDepth 100000 in
theorem rd_pins {n : Nat} {a : Value} {y : DataW H × List MemPlace} (h : DataW.trod enc Try.prog W 0 (fun _ => true) true n 45 [a] = some y) : ∃ (q : Option Addr) (c : Nat) (l : List Cm.Pn), a = .slice q l.length c ∧ PsAt W q l ∧ (∀ x ∈ l, Cm.i64 x.v.a ∧ Cm.i64 x.v.b ∧ Cm.i64 x.v.c) ∧ l.length ≤ maxLen := by
  rcases open_slice Try.underlying45 h with ⟨hcs, _⟩ | ⟨b, len, cap, m, n, D, Pl, hcs, _, hl, hm, hmm, _, hi⟩
  · obtain rfl := (List.cons.inj hcs).1
    exact ⟨none, 0, [], rfl, fun i x hx => by simp at hx, (fun x hx => by cases hx), Nat.zero_le _⟩
  · obtain rfl := (List.cons.inj hcs).1
    have hm2 : m = cap := by simpa using hmm
    by_cases hz : len = 0
    · subst hz
      exact ⟨some b, cap, [], rfl, fun i x hx => by simp at hx, (fun x hx => by cases hx), Nat.zero_le _⟩
    obtain ⟨b1, o1, rfl⟩ : ∃ b1 o1, b = ⟨b1, o1, none⟩ := by
      obtain ⟨cs, hc, _⟩ := hi 0 (by omega)
      simp only [k25] at hc
      obtain ⟨_, hcl, hat⟩ := World.cells?_some hc
      have h0 := hat 0 (by omega)
      rw [List.getElem?_eq_getElem (by omega)] at h0
      have h1 := World.cell?_spot h0
      obtain ⟨b1, o1, sp⟩ := b
      have h2 : sp = none := by simpa [Addr.add] using h1
      exact ⟨b1, o1, by rw [h2]⟩
    obtain ⟨l, hll, hp⟩ := pick_list (P := fun i x => PcAt W b1 (o1 + i * 4) x ∧ (Cm.i64 x.v.a ∧ Cm.i64 x.v.b ∧ Cm.i64 x.v.c)) len (fun i hi2 => by
      obtain ⟨cs, hc, ht⟩ := hi i (by omega)
      simp only [k25] at hc
      obtain ⟨_, hcl, hat⟩ := World.cells?_some hc
      obtain ⟨c0, c1, c2, c3, rfl⟩ := list4 hcl
      obtain ⟨x, rfl, rfl, rfl, rfl, _, hb⟩ := rd_pin ht
      exact ⟨x, pcAt_of (hat 0 (by omega)) (hat 1 (by omega)) (hat 2 (by omega)) (hat 3 (by omega)), hb⟩)
    refine ⟨some ⟨b1, o1, none⟩, cap, l, by rw [hll], fun i x hx => ⟨b1, o1, rfl, (hp i x hx).1⟩, fun x hx => ?_, by omega⟩
    obtain ⟨i, hi3, hxi⟩ := List.getElem_of_mem hx
    exact (hp i x (by rw [List.getElem?_eq_getElem hi3, hxi])).2
set_option maxRecDepth 100000 in
theorem arg_ans (hval : Value.okWide Try.prog W .any base 49 v) (h : DataW.Trod enc Try.prog W 0 (fun _ => true) true 49 v d p) : ∃ a : Cm.An, (∃ (q : Option Addr) (c : Nat), v = ansv a (.slice q a.ps.length c) ∧ PsAt W q a.ps) ∧ (Cm.anI a ∧ a.ps.length ≤ maxLen) := by
  obtain ⟨cs, rfl, hsz⟩ := okWide_struct Try.underlying49 hval
  obtain ⟨c0, c1, c2, c3, c4, c5, c6, c7, c8, c9, c10, c11, c12, rfl⟩ := array13 (hsz.trans k49)
  obtain ⟨fuel, hf⟩ := h
  obtain ⟨ys, m, _, _, _, hys, hfs⟩ := DataW.trod_struct Try.underlying49 hf
  have hy8 : ys.length = 8 := hys
  have g0 : DataW.trod enc Try.prog W 0 (fun _ => true) true m 29 (([c0, c1, c2, c3, c4, c5, c6, c7, c8, c9, c10, c11, c12].drop 0).take (Try.prog.cellsOf 29)) = ys[0]? := hfs 0 _ rfl
  have g1 : DataW.trod enc Try.prog W 0 (fun _ => true) true m 3 (([c0, c1, c2, c3, c4, c5, c6, c7, c8, c9, c10, c11, c12].drop 1).take (Try.prog.cellsOf 3)) = ys[1]? := hfs 1 _ rfl
  have g2 : DataW.trod enc Try.prog W 0 (fun _ => true) true m 3 (([c0, c1, c2, c3, c4, c5, c6, c7, c8, c9, c10, c11, c12].drop 2).take (Try.prog.cellsOf 3)) = ys[2]? := hfs 2 _ rfl
  have g3 : DataW.trod enc Try.prog W 0 (fun _ => true) true m 44 (([c0, c1, c2, c3, c4, c5, c6, c7, c8, c9, c10, c11, c12].drop 3).take (Try.prog.cellsOf 44)) = ys[3]? := hfs 3 _ rfl
  have g4 : DataW.trod enc Try.prog W 0 (fun _ => true) true m 45 (([c0, c1, c2, c3, c4, c5, c6, c7, c8, c9, c10, c11, c12].drop 6).take (Try.prog.cellsOf 45)) = ys[4]? := hfs 4 _ rfl
  have g5 : DataW.trod enc Try.prog W 0 (fun _ => true) true m 9 (([c0, c1, c2, c3, c4, c5, c6, c7, c8, c9, c10, c11, c12].drop 7).take (Try.prog.cellsOf 9)) = ys[5]? := hfs 5 _ rfl
  have g6 : DataW.trod enc Try.prog W 0 (fun _ => true) true m 4 (([c0, c1, c2, c3, c4, c5, c6, c7, c8, c9, c10, c11, c12].drop 8).take (Try.prog.cellsOf 4)) = ys[6]? := hfs 6 _ rfl
  have g7 : DataW.trod enc Try.prog W 0 (fun _ => true) true m 47 (([c0, c1, c2, c3, c4, c5, c6, c7, c8, c9, c10, c11, c12].drop 9).take (Try.prog.cellsOf 47)) = ys[7]? := hfs 7 _ rfl
  rw [List.getElem?_eq_getElem (by omega)] at g0 g1 g2 g3 g4 g5 g6 g7
  simp only [k29, k3, k44, k45, k9, k4, k47] at g0 g1 g2 g3 g4 g5 g6 g7
  obtain ⟨z0, e0, b0⟩ := rd_err g0
  obtain ⟨z1, e1, b1⟩ := rd_int g1
  obtain ⟨z2, e2, b2⟩ := rd_int g2
  obtain ⟨x0, x1, x2, m3, _, _, t0, t1, t2⟩ := trod_struct3 Try.underlying44 g3
  simp only [k3, k9] at t0 t1 t2
  obtain ⟨z3, e3, b3⟩ := rd_int t0
  obtain ⟨z4, e4, _, _⟩ := rd_str t1
  obtain ⟨z5, e5, _, _⟩ := rd_str t2
  obtain ⟨q, c, l, e6, hps, hpi, hlen⟩ := rd_pins g4
  obtain ⟨z7, e7, _, _⟩ := rd_str g5
  obtain ⟨z8, e8⟩ := rd_bool g6
  obtain ⟨u0, u1, u2, u3, m7, _, _, r0, r1, r2, r3⟩ := trod_struct4 Try.underlying47 g7
  simp only [k3] at r0 r1 r2 r3
  obtain ⟨z9, e9, b9⟩ := rd_int r0
  obtain ⟨z10, e10, b10⟩ := rd_int r1
  obtain ⟨z11, e11, b11⟩ := rd_int r2
  obtain ⟨z12, e12, b12⟩ := rd_int r3
  exact ⟨⟨z0, z1, z2, z3, z4, z5, l, z7, z8, z9, z10, z11, z12⟩, ⟨q, c, by rw [e0, e1, e2, e3, e4, e5, e6, e7, e8, e9, e10, e11, e12], hps⟩, ⟨b0, b1, b2, b3, hpi, b9, b10, b11, b12⟩, hlen⟩
end
end Go.Proofs.Ytfbfdkjimoomlaa
