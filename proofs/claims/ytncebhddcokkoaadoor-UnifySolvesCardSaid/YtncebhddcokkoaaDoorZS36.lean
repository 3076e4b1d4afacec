/- Texts in a row: Qk Th Mp. -/
import Derived.Test.YtncebhddcokkoaaDoorZS35
import Derived.Test.YtncebhddcokkoaaDoorZS31
import Derived.Test.YtncebhddcokkoaaDoorZS1
import Derived.ProofKit
import Derived.LaidMore
import Derived.OpenShut
import Derived.ShutString
import Derived.ChangeOld
import Derived.ChangeSlices
import Derived.Lib.SmallJoins
import Derived.Stop.Joined
/- UnifySolves: its walk. -/
namespace Go.Proofs.YtncebhddcokkoaaDoor
open Go.RowKit
set_option linter.unusedSimpArgs false
set_option linter.unusedVariables false
/-- What is answered of equations: a number, and a list. -/
def AnsQ (d : Nat) (E : List (Tm × Tm)) (k : Int) (L : List NT) : Prop := (k = 15 ∧ L = [] ∧ ¬ ∃ τ, SolE E τ) ∨
  ∃ σ, Best E (nmsE d E) σ ∧ ((k = 0 ∧ (L = (nmsE d E).map fun n => (n, σ n)) ∧ ∀ n ∈ nmsE d E, cnt2 (σ n) ≤ 1000) ∨ (k = 9 ∧ L = [] ∧ ∃ n ∈ nmsE d E, 1000 < cnt2 (σ n)))
theorem ans_one {d : Nat} {E : List (Tm × Tm)} {k k' : Int} {L L' : List NT} (h : AnsQ d E k L) (h' : AnsQ d E k' L') : k = k' ∧ L = L' := by
  rcases h with ⟨rfl, rfl, hno⟩ | ⟨σ, hB, h⟩
  · rcases h' with ⟨rfl, rfl, _⟩ | ⟨τ, hB', _⟩
    · exact ⟨rfl, rfl⟩
    · exact absurd ⟨τ, hB'.sol⟩ hno
  · rcases h' with ⟨_, _, hno⟩ | ⟨τ, hB', h'⟩
    · exact absurd ⟨σ, hB.sol⟩ hno
    · have heq := best_one hB hB'
      rcases h with ⟨rfl, rfl, hall⟩ | ⟨rfl, rfl, n, hn, hbig⟩
      · rcases h' with ⟨rfl, rfl, _⟩ | ⟨rfl, rfl, n, hn, hbig⟩
        · exact ⟨rfl, List.map_congr_left fun n hn => by rw [heq n hn]⟩
        · have := hall n hn; rw [heq n hn] at this; omega
      · rcases h' with ⟨rfl, rfl, hall⟩ | ⟨rfl, rfl, _⟩
        · have := hall n hn; rw [heq n hn] at hbig; omega
        · exact ⟨rfl, rfl⟩
theorem VAt.more {w : World} {d d' : Nat} {v : Value} {L : List NT} (h : VAt w d v L) (hd : d ≤ d') : VAt w d' v L := by
  obtain ⟨q, c, e, hl, h⟩ := h
  refine ⟨q, c, e, hl, fun i x hx => ?_⟩
  obtain ⟨g, k, p, n, N, s, h1, h2, h3, h4, h5⟩ := h i x hx
  exact ⟨g, k, p, n, N, s, h1, h2, h3, h4, h5.more hd⟩
theorem EqAt.more {w : World} {d d' : Nat} {v : Value} {E : List (Tm × Tm)} (h : EqAt w d v E) (hd : d ≤ d') : EqAt w d' v E := by
  obtain ⟨q, c, e, h⟩ := h
  refine ⟨q, c, e, fun i x hx => ?_⟩
  obtain ⟨g, o, k, p, n, N, s, k', p', n', N', s', h1, ⟨h2, h3⟩, h4, h5⟩ := h i x hx
  exact ⟨g, o, k, p, n, N, s, k', p', n', N', s', h1, ⟨h2, h3.more hd⟩, h4, h5.more hd⟩
def AnsR (d : Nat) (E : List (Tm × Tm)) (w : World) (e : Ending) (w' : World) : Prop := ∃ (q : Option Addr) (l c : Nat) (k : Int) (L : List NT), e = .returned (.tuple #[.slice q l c, .int .i64 k]) ∧ VAt w' 1002 (.slice q l c) L ∧ AnsQ d E k L ∧ Below w.heap.size w w'
theorem solveA_any (w : World) (d : Nat) (v : Value) (E : List (Tm × Tm)) (hE : EqAt w d v E) (hT : ∀ x ∈ E, Typ x.1 ∧ Typ x.2) (htot : tot d E ≤ 1000) (hel : E.length ≤ 1000) : Calls Tryd.prog 12 #[v] w (AnsR d E w) := by
  refine (solve_any w d v E hE hT htot hel).mono ?_
  rintro e w' ⟨hb, ⟨rfl, hno⟩ | ⟨σ, hB, ⟨v', rfl, hall, hv⟩ | ⟨rfl, hbig⟩⟩⟩
  · exact ⟨none, 0, 0, 15, [], rfl, VAt.nil _ _, .inl ⟨rfl, rfl, hno⟩, hb⟩
  · obtain ⟨q, c, rfl⟩ := hv.shape
    exact ⟨_, _, _, 0, _, rfl, hv.more (by decide), .inr ⟨σ, hB, .inl ⟨rfl, rfl, hall⟩⟩, hb⟩
  · exact ⟨none, 0, 0, 9, [], rfl, VAt.nil _ _, .inr ⟨σ, hB, .inr ⟨rfl, rfl, hbig⟩⟩, hb⟩
theorem rsolveA_any (w : World) (d : Nat) (v : Value) (E : List (Tm × Tm)) (hE : EqAt w d v E) (hT : ∀ x ∈ E, Typ x.1 ∧ Typ x.2) (htot : tot d E ≤ 1000) (hel : E.length ≤ 1000) (hd : 1 ≤ d) : Calls Tryd.prog 13 #[v] w (AnsR d E w) := by
  refine (rsolve_any w d v E hE hT htot hel hd).mono ?_
  rintro e w' ⟨hb, ⟨rfl, hno⟩ | ⟨σ, hB, ⟨v', rfl, hall, hv⟩ | ⟨rfl, hbig⟩⟩⟩
  · exact ⟨none, 0, 0, 15, [], rfl, VAt.nil _ _, .inl ⟨rfl, rfl, hno⟩, hb⟩
  · obtain ⟨q, c, rfl⟩ := hv.shape
    exact ⟨_, _, _, 0, _, rfl, hv, .inr ⟨σ, hB, .inl ⟨rfl, rfl, hall⟩⟩, hb⟩
  · exact ⟨none, 0, 0, 9, [], rfl, VAt.nil _ _, .inr ⟨σ, hB, .inr ⟨rfl, rfl, hbig⟩⟩, hb⟩
set_option maxRecDepth 100000 in
set_option maxHeartbeats 2000000 in
theorem solves_walk (w : World) (d : Nat) (v : Value) (E : List (Tm × Tm)) (hE0 : EqAt w d v E) (hlen : E.length ≤ 9223372036854775807) :
    Calls Tryd.prog 3 #[v] w (fun e w' => e = .returned (.bool true) ∧ Below w.heap.size w w') := by
  have hE := hE0.more (Nat.le_succ d)
  have HEQ := Lib.hid (eqsA_any w (d + 1) v E hE hlen)
  have HE := Lib.hid hE
  obtain ⟨qe, ce, rfl, _⟩ := hE
  clear hE0
  go_enter Tryd.func3, Tryd.ntmps3
  go_upto_region 1 with (fail)
  go_wp2_with fail
  go_at_call 10
  with_reducible refine HEQ.out.mono ?_
  rintro e w1 ⟨r, rfl, hr, hb⟩
  have HR := Lib.hid hr
  have HB1 := Lib.hid hb
  clear hr hb HEQ
  cases r
  · go_wp2_with (go_at_call 11; ((with_reducible refine (alive13_any _).mono ?_); rintro e w4 ⟨rfl, hb⟩))
    go_ret
    exact ⟨rfl, HB1.out.trans (hb.mono HB1.out.size)⟩
  obtain ⟨hl20, hTS, htot⟩ := HR.out rfl
  have HT := Lib.hid (fun x hx => (⟨(hTS x hx).1.1, (hTS x hx).2.1⟩ : Typ x.1 ∧ Typ x.2))
  have HTOT := Lib.hid htot
  have HL20 := Lib.hid hl20
  have HSV := Lib.hid (solveA_any w1 (d + 1) _ E (HE.out.below HB1.out) HT.out (by omega) (by omega))
  clear HR hTS htot hlen hl20
  generalize hL : E.length = L at *
  have HL := Lib.hid hL
  clear hL
  go_upto_region 4 with (go_at_call 12; (with_reducible refine HSV.out.mono ?_); rintro e w2 ⟨q1, l1, c1, k1, L1, rfl, hv1, ha1, hb1⟩; have HV1 := Lib.hid hv1; have HA1 := Lib.hid ha1; have HB2 := Lib.hid (HB1.out.trans (hb1.mono HB1.out.size)); clear hv1 ha1 hb1)
  have HSV2 := Lib.hid (rsolveA_any w2 (d + 1) _ E (HE.out.below HB2.out) HT.out (by have := HTOT.out; omega) (by have := HL20.out; have := HL.out; omega) (Nat.succ_le_succ (Nat.zero_le d)))
  go_upto_region 5 with (go_at_call 13; (with_reducible refine HSV2.out.mono ?_); rintro e w3 ⟨q2, l2, c2, k2, L2, rfl, hv2, ha2, hb2⟩; obtain ⟨ek, eL⟩ := ans_one HA1.out ha2; have HV2 := Lib.hid hv2; have HV3 := Lib.hid (HV1.out.below hb2); have HB3 := Lib.hid (HB2.out.trans (hb2.mono HB2.out.size)); clear hv2 ha2 hb2)
  subst ek eL
  have HSM := Lib.hid (usame_any 1002 _ _ _ w3 HV3.out HV2.out)
  go_wp2_with (first
    | (go_at_call 14; ((with_reducible refine HSM.out.mono ?_); rintro e w4 ⟨rfl, hb4⟩; have HB4 := Lib.hid (HB3.out.trans (hb4.mono HB3.out.size)); clear hb4))
    | (go_at_call 15; (with_reducible refine (no13_any _ _).mono ?_); rintro e w5 ⟨rfl, hb5⟩; have HB5 := Lib.hid (HB4.out.trans (hb5.mono HB4.out.size)); clear hb5)
    | (go_at_call 11; (with_reducible refine (alive13_any _).mono ?_); rintro e w6 ⟨rfl, hb6⟩; have HB6 := Lib.hid (HB5.out.trans (hb6.mono HB5.out.size)); clear hb6))
  go_ret
  exact ⟨rfl, HB6.out⟩
end Go.Proofs.YtncebhddcokkoaaDoor
/- Arguments by value: a term; what the row assumes of the listed variables is met by the door's own heap. -/
namespace Go.Proofs.YtncebhddcokkoaaDoor
open Go.ChangeShapes Go.WideShapes Go.ChangeAt Go.RowKit
theorem ownKn : ownKnob Tryd.prog.godebug = none := by kernel_rfl
theorem laidTry : laidOutB Tryd.prog = true := by kernel_rfl
set_option maxRecDepth 100000
section
variable {H : Type} {enc : TypeId × Value → H} {W : World} {base : Nat} {v : Value} {d : DataW H} {p : List MemPlace}
end
end Go.Proofs.YtncebhddcokkoaaDoor
/- An argument that is a row of equations. -/
namespace Go.Proofs.YtncebhddcokkoaaDoor
open Go.ChangeShapes Go.WideShapes Go.ChangeAt Go.RowKit
set_option linter.unusedSimpArgs false
set_option linter.unusedVariables false
theorem cells43 : Tryd.prog.cellsOf 43 = 10 := by kernel_rfl
section
set_option maxRecDepth 100000
variable {H : Type} {enc : TypeId × Value → H} {W : World} {base : Nat} {v : Value} {d : DataW H} {p : List MemPlace}
theorem trod_eq (fuel : Nat) (cs : List Value) (x : DataW H × List MemPlace) (h : DataW.trod enc Tryd.prog W 0 (fun _ => true) true fuel 43 cs = some x) :
    ∃ (k k' : Int) (p n p' n' : ByteArray) (N N' : Int) (s s' : Value) (t : Tm × Tm), cs = [.int .i64 k, .string p, .string n, .int .i64 N, s, .int .i64 k', .string p', .string n', .int .i64 N', s'] ∧ IsT W fuel (tv k p n N s) t.1 ∧ IsT W fuel (tv k' p' n' N' s') t.2 := by
  obtain ⟨xs, m, rfl, _, hl, hx5, hf⟩ := DataW.trod_struct Tryd.underlying43 h
  rw [cells43] at hl
  have hx5' : xs.length = 2 := hx5
  have g0 : DataW.trod enc Tryd.prog W 0 (fun _ => true) true m 36 ((cs.drop 0).take (Tryd.prog.cellsOf 36)) = xs[0]? := hf 0 _ rfl
  have g1 : DataW.trod enc Tryd.prog W 0 (fun _ => true) true m 36 ((cs.drop 5).take (Tryd.prog.cellsOf 36)) = xs[1]? := hf 1 _ rfl
  rw [cells24, List.getElem?_eq_getElem (by omega)] at g0 g1
  obtain ⟨k, p, n, N, s, t, e0, h0⟩ := trod_term m _ _ g0
  obtain ⟨k', p', n', N', s', t', e1, h1⟩ := trod_term m _ _ g1
  refine ⟨k, k', p, n, p', n', N, N', s, s', (t, t'), ?_, h0.more (by omega), h1.more (by omega)⟩
  have e2 : cs = (cs.drop 0).take 5 ++ (cs.drop 5).take 5 := by
    rw [List.drop_zero]
    have : (cs.drop 5).take 5 = cs.drop 5 := List.take_of_length_le (by rw [List.length_drop]; omega)
    rw [this, List.take_append_drop]
  rw [e2, e0, e1]
  rfl
theorem pickE {α : Type} {P : Nat → α → Prop} : ∀ n : Nat, (∀ i, i < n → ∃ t, P i t) → ∃ l : List α, l.length = n ∧ ∀ i t, l[i]? = some t → P i t
  | 0, _ => ⟨[], rfl, fun i t h => by simp at h⟩
  | n + 1, h => by
    obtain ⟨l, hl, hp⟩ := pickE n fun i hi => h i (by omega)
    obtain ⟨t, ht⟩ := h n (by omega)
    refine ⟨l ++ [t], by simp [hl], fun i y hy => ?_⟩
    by_cases hi : i < l.length
    · rw [List.getElem?_append_left hi] at hy
      exact hp i y hy
    · have h1 := (List.getElem?_eq_some_iff.1 hy).1
      simp at h1
      have e : i = l.length := by omega
      subst e
      rw [List.getElem?_concat_length] at hy
      obtain rfl := Option.some.inj hy
      rw [hl]
      exact ht
theorem arg_eqs (hval : Value.okWide Tryd.prog W .any base 22 v) (h : DataW.Trod enc Tryd.prog W 0 (fun _ => true) true 22 v d p) : ∃ (m : Nat) (E : List (Tm × Tm)), EqAt W m v E ∧ E.length ≤ 9223372036854775807 := by
  obtain ⟨a0, len0, cap0, rfl⟩ := okWide_slice Tryd.underlying22 hval
  obtain ⟨fuel, hf⟩ := h
  rcases DataW.trod_slice Tryd.underlying22 hf with ⟨hcs, _⟩ | ⟨a, len, cap, elems, rest, n', hm', hcs, _, _, hl2, hm, hlen, hel, _, _⟩
  · simp [Value.cells] at hcs
    obtain ⟨rfl, rfl, rfl⟩ := hcs
    exact ⟨0, [], ⟨none, 0, rfl, fun i y hy => by simp at hy⟩, Nat.zero_le _⟩
  · simp [Value.cells] at hcs
    obtain ⟨rfl, rfl, rfl⟩ := hcs
    by_cases hz : len0 = 0
    · subst hz
      exact ⟨0, [], ⟨some a, cap0, rfl, fun i y hy => by simp at hy⟩, Nat.zero_le _⟩
    have hi : ∀ i, i < len0 → ∃ cs' y, W.cells? 0 (a.add (i * 10)) 10 = some cs' ∧ DataW.trod enc Tryd.prog W 0 (fun _ => true) true n' 43 cs' = some y := fun i hi => by
      have he := hel i hi
      rw [cells43, List.getElem?_eq_getElem (by omega)] at he
      obtain ⟨cs', h1, h2⟩ := Option.bind_eq_some_iff.1 he
      exact ⟨cs', _, h1, h2⟩
    obtain ⟨b1, o1, rfl⟩ : ∃ b1 o1, a = ⟨b1, o1, none⟩ := by
      obtain ⟨cs, _, hc, _⟩ := hi 0 (by omega)
      obtain ⟨_, hcl, hat⟩ := World.cells?_some hc
      have h0 := hat 0 (by omega)
      rw [List.getElem?_eq_getElem (by omega)] at h0
      have h1 := World.cell?_spot h0
      obtain ⟨b1, o1, sp⟩ := a
      have h2 : sp = none := by simpa [Addr.add] using h1
      exact ⟨b1, o1, by rw [h2]⟩
    obtain ⟨l, hll, hpl⟩ := pickE (P := fun i (t : Tm × Tm) => ∃ k p n N s k' p' n2 N' s', (TAt W b1 (o1 + i * 10) k p n N s ∧ IsT W n' (tv k p n N s) t.1) ∧ TAt W b1 (o1 + i * 10 + 5) k' p' n2 N' s' ∧ IsT W n' (tv k' p' n2 N' s') t.2) len0 (fun i hi2 => by
      obtain ⟨cs, y, hc, ht⟩ := hi i hi2
      obtain ⟨_, hcl, hat⟩ := World.cells?_some hc
      obtain ⟨k, k', p, n, p', n2, N, N', s, s', t, rfl, ht1, ht2⟩ := trod_eq n' cs _ ht
      have a0 := hat 0 (by omega)
      have a1 := hat 1 (by omega)
      have a2 := hat 2 (by omega)
      have a3 := hat 3 (by omega)
      have a4 := hat 4 (by omega)
      have a5 := hat 5 (by omega)
      have a6 := hat 6 (by omega)
      have a7 := hat 7 (by omega)
      have a8 := hat 8 (by omega)
      have a9 := hat 9 (by omega)
      simp only [Addr.add_lit, Nat.add_zero] at a0 a1 a2 a3 a4 a5 a6 a7 a8 a9
      exact ⟨t, k, p, n, N, s, k', p', n2, N', s', ⟨⟨a0, a1, a2, a3, a4⟩, ht1⟩, ⟨a5, a6, a7, a8, a9⟩, ht2⟩)
    refine ⟨n', l, ⟨some ⟨b1, o1, none⟩, cap0, by rw [hll], fun i y hy => ?_⟩, by rw [hll]; unfold maxLen at hm; omega⟩
    obtain ⟨k, p, n, N, s, k', p', n2, N', s', h1, h2⟩ := hpl i y hy
    exact ⟨b1, o1, k, p, n, N, s, k', p', n2, N', s', rfl, h1, h2⟩
end
end Go.Proofs.YtncebhddcokkoaaDoor
