/- Texts in a row: Mk Ml Mm. -/
import Derived.Test.YtncebhddcokkoaaDoorZU32
/- Are types gone through? -/
namespace Go.Proofs.YtncebhddcokkoaaDoor
open Go.RowKit Go.Maps
set_option linter.unusedSimpArgs false
set_option linter.unusedVariables false
def sumT (d k : Nat) (ts : List Tm) : Nat := (ts.take k).foldl (fun n t => n + tszN d t) 0
theorem sumT_next {d k : Nat} {ts : List Tm} {x : Tm} (h : ts[k]? = some x) : sumT d (k + 1) ts = sumT d k ts + tszN d x := by
  unfold sumT
  rw [List.take_add_one, h]
  simp [List.foldl_append]
theorem sumT_all {d : Nat} {ts : List Tm} : sumT d ts.length ts = ts.foldl (fun n t => n + tszN d t) 0 := by
  unfold sumT
  rw [List.take_length]
def FewA (d : Nat) (ts : List Tm) (w : World) (e : Ending) (w' : World) : Prop := ∃ r : Bool, e = .returned (.bool r) ∧ (r = true → (∀ t ∈ ts, Typ t ∧ Sm d t) ∧ ts.foldl (fun n t => n + tszN d t) 0 ≤ 60) ∧ Below w.heap.size w w'
set_option maxRecDepth 100000 in
set_option maxHeartbeats 4000000 in
theorem fewA_any (d : Nat) (s : Value) (ts : List Tm) (w : World) (hk : KidsT w d s ts) (hlen : ts.length ≤ 1000) : Calls Tryd.prog 19 #[s] w (FewA d ts w) := by
  obtain ⟨q, c, rfl, hl, hr⟩ := hk
  have HR := Lib.hid hr
  clear hr
  generalize hL : ts.length = L at *
  have HL := Lib.hid hL
  clear hL
  unfold maxLen at hl
  go_enter Tryd.func19, Tryd.ntmps19
  go_wp2
  go_loopw [3, 7] (fun nv i wr => ∃ k : Nat, k ≤ L ∧ i = .int .i64 k ∧ nv = .int .i64 (sumT d k ts : Nat) ∧ sumT d k ts ≤ 600 * k ∧ Below w.heap.size w wr ∧ ∀ (j : Nat) (x : Tm), j < k → ts[j]? = some x → Typ x ∧ Sm d x) (fun _ i _ => L - (intOf i).toNat)
  case atStart => exact ⟨0, Nat.zero_le _, rfl, rfl, Nat.zero_le _, Below.refl _ _, fun j x hj => absurd hj (by omega)⟩
  case round =>
    obtain ⟨k, hk, rfl, rfl, hsum, hB, hty⟩ := hrel
    have HTY := Lib.hid hty
    have HB := Lib.hid hB
    clear hty
    by_cases hlt : (k : Int) < (L : Int)
    · have hx : ∃ x, ts[k]? = some x := ⟨_, List.getElem?_eq_getElem (by have := HL.out; omega)⟩
      obtain ⟨x, hx⟩ := hx
      obtain ⟨b1, o1, k1, p1, n1, N1, s1, hq, ha, ht⟩ := HR.out k x hx
      subst hq
      obtain ⟨x0, x1, x2, x3, x4⟩ := ha.below hB ha.lt
      have HT := Lib.hid (ht.below hB)
      have HX := Lib.hid hx
      clear hx ht ha hB
      go_wp2_with (first
        | (go_at_call 44; (with_reducible refine (few2_any d _ x _ HT.out).mono ?_); rintro e w3 ⟨r3, rfl, hr3, hb3⟩; have HR3 := Lib.hid hr3; have HB3 := Lib.hid hb3; have x0 := keep_cell hb3 x0; have x1 := keep_cell hb3 x1; have x2 := keep_cell hb3 x2; have x3 := keep_cell hb3 x3; have x4 := keep_cell hb3 x4; clear hr3 hb3; cases r3)
        | (go_at_call 45; (with_reducible refine (typ13_any d _ x _ (HT.out.below HB3.out)).mono ?_); rintro e w4 ⟨r4, rfl, hr4, hb4⟩; have HR4 := Lib.hid hr4; have HB4 := Lib.hid hb4; have x0 := keep_cell hb4 x0; have x1 := keep_cell hb4 x1; have x2 := keep_cell hb4 x2; have x3 := keep_cell hb4 x3; have x4 := keep_cell hb4 x4; clear hr4 hb4; cases r4)
        | (go_at_call 16; (with_reducible refine (rsize_any d _ x _ ((HT.out.below HB3.out).below HB4.out)).mono ?_); rintro e w5 ⟨rfl, hb5⟩; have HB5 := Lib.hid hb5; clear hb5))
      · go_ret
        exact ⟨_, rfl, (by intro h; cases h), HB.out.trans (HB3.out.mono HB.out.size)⟩
      · have hB3 := HB.out.trans (HB3.out.mono HB.out.size)
        go_ret
        exact ⟨_, rfl, (by intro h; cases h), hB3.trans (HB4.out.mono hB3.size)⟩
      · have hB3 := HB.out.trans (HB3.out.mono HB.out.size)
        have hB4 := hB3.trans (HB4.out.mono hB3.size)
        have hsm : Sm d x ∧ tszN d x ≤ 600 := HR3.out (by simp)
        have htp : Typ x := HR4.out (by simp)
        have e1 := sumT_next (d := d) HX.out
        have e2 := sz_eq d x (by omega)
        have e3 : wrap64 (((sumT d k ts : Nat) : Int) + sz d x) = ((sumT d (k + 1) ts : Nat) : Int) := by
          rw [e2, e1]
          unfold wrap64
          omega
        refine ⟨⟨k + 1, by omega, by simp, by rw [e3], by omega, hB4.trans (HB5.out.mono hB4.size), fun j y hj hy => ?_⟩, by simp [intOf]; omega⟩
        by_cases hjk : j < k
        · exact HTY.out j y hjk hy
        · obtain rfl : j = k := by omega
          rw [HX.out] at hy
          cases hy
          exact ⟨htp, hsm.1⟩
    · obtain rfl : k = L := by omega
      go_wp2
      go_ret
      refine ⟨_, rfl, fun h => ⟨fun t ht => ?_, ?_⟩, HB.out⟩
      · obtain ⟨i, hi⟩ := List.getElem?_of_mem ht
        exact HTY.out i t (by have h9 := (List.getElem?_eq_some_iff.1 hi).1; have h8 := HL.out; omega) hi
      · rw [← sumT_all, HL.out]
        have h : ((sumT d k ts : Nat) : Int) ≤ 60 := by simpa using h
        omega
end Go.Proofs.YtncebhddcokkoaaDoor
/- Equations are gone through. -/
namespace Go.Proofs.YtncebhddcokkoaaDoor
open Go.RowKit Go.Maps
set_option linter.unusedSimpArgs false
set_option linter.unusedVariables false
/-- The sides of the first equations, in a row of one's own. -/
structure EqsI (w : World) (E : List (Tm × Tm)) (d j : Nat) (tv' : Value) (ts : List T5) (wr : World) : Prop where
  row : wr.ownsRow w.heap.size 36 5 tv' ts.length (flatC ts)
  len : ts.length = (two (E.take j)).length
  bel : Below w.heap.size w wr
  trm : ∀ (i : Nat) (y : Tm), (two (E.take j))[i]? = some y → ∃ t, ts[i]? = some t ∧ IsT w d (t5v t) y
theorem EqsI.below {w wr w' : World} {E : List (Tm × Tm)} {d j : Nat} {tv' : Value} {ts : List T5} (h : EqsI w E d j tv' ts wr) (hb : Below wr.heap.size wr w') : EqsI w E d j tv' ts w' :=
  ⟨own_kept h.row fun g x hg hx => hb_below hx hb (hb_lt hx), h.len, h.bel.trans (hb.mono h.bel.size), h.trm⟩
end Go.Proofs.YtncebhddcokkoaaDoor
/- Equations turned. -/
namespace Go.Proofs.YtncebhddcokkoaaDoor
open Go.RowKit Go.Maps
set_option linter.unusedSimpArgs false
set_option linter.unusedVariables false
theorem mem_two {E : List (Tm × Tm)} {t : Tm} : t ∈ two E ↔ ∃ x ∈ E, t = x.1 ∨ t = x.2 := by
  induction E with
  | nil => simp [two]
  | cons y E ih => simp [two, ih, or_assoc]
theorem mem_nmsE {d : Nat} {E : List (Tm × Tm)} {n : ByteArray} : n ∈ nmsE d E ↔ ∃ x ∈ E, hasV d x.1 n ∨ hasV d x.2 n := by
  unfold nmsE
  rw [← inN_iffL, inN_foldV (inN_varsT d)]
  constructor
  · rintro (h | ⟨t, ht, h⟩)
    · simp [inN] at h
    · obtain ⟨x, hx, rfl | rfl⟩ := mem_two.1 ht
      · exact ⟨x, hx, .inl h⟩
      · exact ⟨x, hx, .inr h⟩
  · rintro ⟨x, hx, h | h⟩
    · exact .inr ⟨_, mem_two.2 ⟨x, hx, .inl rfl⟩, h⟩
    · exact .inr ⟨_, mem_two.2 ⟨x, hx, .inr rfl⟩, h⟩
/-- The same equations, in another order, some with their sides turned. -/
def Turn (E F : List (Tm × Tm)) : Prop := (∀ x ∈ F, x ∈ E ∨ (x.2, x.1) ∈ E) ∧ ∀ x ∈ E, x ∈ F ∨ (x.2, x.1) ∈ F
theorem Turn.sol {E F : List (Tm × Tm)} (h : Turn E F) (τ : ByteArray → Tm) : SolE E τ ↔ SolE F τ := by
  constructor
  · intro hs x hx
    rcases h.1 x hx with hx | hx
    · exact hs x hx
    · obtain ⟨u, h1, h2⟩ := hs _ hx
      exact ⟨u, h2, h1⟩
  · intro hs x hx
    rcases h.2 x hx with hx | hx
    · exact hs x hx
    · obtain ⟨u, h1, h2⟩ := hs _ hx
      exact ⟨u, h2, h1⟩
theorem Turn.nms {E F : List (Tm × Tm)} (h : Turn E F) (d : Nat) (n : ByteArray) : n ∈ nmsE d E ↔ n ∈ nmsE d F := by
  rw [mem_nmsE, mem_nmsE]
  constructor
  · rintro ⟨x, hx, hv⟩
    rcases h.2 x hx with hx | hx
    · exact ⟨x, hx, hv⟩
    · exact ⟨_, hx, hv.symm⟩
  · rintro ⟨x, hx, hv⟩
    rcases h.1 x hx with hx | hx
    · exact ⟨x, hx, hv⟩
    · exact ⟨_, hx, hv.symm⟩
theorem foldl_tot {α : Type} (f : α → Nat) : ∀ (l : List α) (n : Nat), l.foldl (fun n t => n + f t) n = n + (l.map f).sum
  | [], n => by simp
  | x :: l, n => by rw [List.foldl_cons, foldl_tot f l]; simp; omega
end Go.Proofs.YtncebhddcokkoaaDoor
