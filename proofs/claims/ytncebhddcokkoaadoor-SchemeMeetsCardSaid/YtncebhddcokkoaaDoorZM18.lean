/- Texts in a row: Ke Kf Kg. -/
import Derived.Test.YtncebhddcokkoaaDoorZM17
import Derived.BigQuiet
/- A store that is full; New, Var, Rigid; what has become one. -/
namespace Go.Proofs.YtncebhddcokkoaaDoor
open Go.RowKit
set_option linter.unusedSimpArgs false
set_option linter.unusedVariables false
set_option maxRecDepth 100000 in
theorem var_any (c : Cfg) (v : Value) (L : List Nd) (w : World) (lv : Int) (h : StL c v L w) (hn : L.length < 100000) (hf : c.full = false) (hb : (L.length : Int) < c.bud) :
    Calls Tryd.prog 25 #[.pointer (some ⟨c.B, 0, none⟩), .int .i64 lv] w fun e w' => e = .returned (.int .i64 (L.length : Nat)) ∧ ∃ v', StL c v' (L ++ [⟨⟨1, ⟨#[]⟩, ⟨#[]⟩, []⟩, .slice none 0 0, lv, false, -1, false, 0⟩]) w' ∧ Kp c w w' := by
  have HA := Lib.hid (add_any c v L w 1 lv 0 0 ⟨#[]⟩ ⟨#[]⟩ [] none 0 0 false false h ⟨none, 0, rfl, .inl rfl⟩ hn hf hb)
  go_enter Tryd.func25, Tryd.ntmps25
  go_wp2_with (go_at_call 48; (refine HA.out.mono ?_); rintro e w' ⟨rfl, hh⟩)
  all_goals
    go_ret
    exact ⟨rfl, hh⟩
theorem other_any (w : World) (k : Int) : Calls Tryd.prog 49 #[.int .i64 k] w fun e w' => e = .returned (.bool (decide (k = 2 ∨ k = 3 ∨ k = 4))) ∧ w' = w := by
  by_cases h2 : k = 2
  · subst h2
    go_enter Tryd.func49, Tryd.ntmps49
    go_wp2
    go_ret
    exact ⟨rfl, rfl⟩
  by_cases h3 : k = 3
  · subst h3
    go_enter Tryd.func49, Tryd.ntmps49
    go_wp2
    go_ret
    exact ⟨rfl, rfl⟩
  by_cases h4 : k = 4
  · subst h4
    go_enter Tryd.func49, Tryd.ntmps49
    go_wp2
    go_ret
    exact ⟨rfl, rfl⟩
  have e2 : (k == 2) = false := by simpa using h2
  have e3 : (k == 3) = false := by simpa using h3
  have e4 : (k == 4) = false := by simpa using h4
  have e : decide (k = 2 ∨ k = 3 ∨ k = 4) = false := by simp [h2, h3, h4]
  rw [e]
  go_enter Tryd.func49, Tryd.ntmps49
  go_wp2
  go_ret
  exact ⟨rfl, rfl⟩
end Go.Proofs.YtncebhddcokkoaaDoor
/- Are two types alike? Two types become one. -/
namespace Go.Proofs.YtncebhddcokkoaaDoor
open Go.RowKit
set_option linter.unusedSimpArgs false
set_option linter.unusedVariables false
theorem kinj {a b : ByteArray} (h : a.toList = b.toList) : a = b := by
  rw [ByteArray.toList_eq, ByteArray.toList_eq] at h
  cases a; cases b
  simpa using h
set_option maxRecDepth 100000 in
set_option maxHeartbeats 4000000 in
theorem alike_any (c : Cfg) (v : Value) (L : List Nd) (w : World) (i j : Nat) (x y : Nd) (h : StL c v L w) (hx : L[i]? = some x) (hy : L[j]? = some y) :
    Calls Tryd.prog 57 #[.pointer (some ⟨c.B, 0, none⟩), .int .i64 i, .int .i64 j] w fun e w' => (∃ b, e = .returned (.bool b) ∧ (b = true ↔ Abs.Alike x.i y.i)) ∧ Below w.heap.size w w' := by
  have hil := (List.getElem?_eq_some_iff.1 hx).1
  have hjl := (List.getElem?_eq_some_iff.1 hy).1
  obtain ⟨qx, cx, ex, _⟩ := h.kid x (List.mem_of_getElem? hx)
  obtain ⟨qy, cy, ey, _⟩ := h.kid y (List.mem_of_getElem? hy)
  obtain ⟨g, cap, rfl, hgB, hg0, hc1, hc2, s0, s1, s2, s3, s4, x0, x1, x2, x3, x4, x5, x6, x7, x8, hfz⟩ := h.at hx
  obtain ⟨g', cap', e, _, _, _, _, _, _, _, _, _, y0, y1, y2, y3, y4, y5, y6, y7, y8, _⟩ := h.at hy
  injection e with e1 e2 e3
  injection e1 with e1
  injection e1 with e1
  subst e1 e3
  have hlt1 : (i : Int) < (L.length : Int) := by omega
  have hlt2 : (j : Int) < (L.length : Int) := by omega
  clear h hx hy s1 s2 s3 s4 x4 x5 x6 x7 x8 y4 y5 y6 y7 y8 hfz
  obtain ⟨⟨k, p, n, kx⟩, ksx, lvx, clx, bex, plx, wkx⟩ := x
  obtain ⟨⟨k', p', n', ky⟩, ksy, lvy, cly, bey, ply, wky⟩ := y
  simp only at ex ey
  subst ex ey
  simp only at x0 x1 x2 x3 y0 y1 y2 y3
  have HAL : ∀ b : Bool, (b = true ↔ (k = k' ∧ k ≠ 5 ∧ p = p' ∧ n = n' ∧ kx.length = ky.length)) → (b = true ↔ Abs.Alike ⟨k, p, n, kx⟩ ⟨k', p', n', ky⟩) := fun b h => h
  by_cases hh : k = k'
  rotate_left
  · have e0 : (k == k') = false := by simpa using hh
    have HP := Lib.hid (HAL false (by simp only [Bool.false_eq_true, false_iff]; exact fun h => hh h.1))
    clear hh HAL
    go_enter Tryd.func57, Tryd.ntmps57
    go_wp2_with fail
    go_region
    all_goals go_wp2_with fail
    all_goals go_quiet (fail)
    all_goals go_wp2
    all_goals go_ret
    all_goals exact ⟨⟨_, rfl, HP.out⟩, by first | exact (Below.refl _ _).drew.drew | exact below_drewN (Below.refl _ _).drew _ | exact (Below.refl _ _).drew⟩
  subst hh
  by_cases hh : k ≠ 5
  rotate_left
  · have e0 : (k != 5) = false := by simpa using hh
    have HP := Lib.hid (HAL false (by simp only [Bool.false_eq_true, false_iff]; exact fun h => hh h.2.1))
    clear hh HAL
    go_enter Tryd.func57, Tryd.ntmps57
    go_wp2_with fail
    go_region
    all_goals go_wp2_with fail
    all_goals go_quiet (fail)
    all_goals go_wp2
    all_goals go_ret
    all_goals exact ⟨⟨_, rfl, HP.out⟩, by first | exact (Below.refl _ _).drew.drew | exact below_drewN (Below.refl _ _).drew _ | exact (Below.refl _ _).drew⟩
  have e5 : (k != 5) = true := by simpa using hh
  have H5 := Lib.hid hh
  clear hh
  by_cases hh : p = p'
  rotate_left
  · have e0 : (p.toList == p'.toList) = false := by simpa using fun h => hh (kinj h)
    have HP := Lib.hid (HAL false (by simp only [Bool.false_eq_true, false_iff]; exact fun h => hh h.2.2.1))
    clear hh HAL
    go_enter Tryd.func57, Tryd.ntmps57
    go_wp2_with fail
    go_region
    all_goals go_wp2_with fail
    all_goals go_quiet (fail)
    all_goals go_wp2
    all_goals go_ret
    all_goals exact ⟨⟨_, rfl, HP.out⟩, by first | exact (Below.refl _ _).drew.drew | exact below_drewN (Below.refl _ _).drew _ | exact (Below.refl _ _).drew⟩
  subst hh
  by_cases hh : n = n'
  rotate_left
  · have e0 : (n.toList == n'.toList) = false := by simpa using fun h => hh (kinj h)
    have HP := Lib.hid (HAL false (by simp only [Bool.false_eq_true, false_iff]; exact fun h => hh h.2.2.2.1))
    clear hh HAL
    go_enter Tryd.func57, Tryd.ntmps57
    go_wp2_with fail
    go_region
    all_goals go_wp2_with fail
    all_goals go_quiet (fail)
    all_goals go_wp2
    all_goals go_ret
    all_goals exact ⟨⟨_, rfl, HP.out⟩, by first | exact (Below.refl _ _).drew.drew | exact below_drewN (Below.refl _ _).drew _ | exact (Below.refl _ _).drew⟩
  subst hh
  by_cases hh : kx.length = ky.length
  rotate_left
  · have e0 : ((kx.length : Int) == (ky.length : Int)) = false := by simp; omega
    have HP := Lib.hid (HAL false (by simp only [Bool.false_eq_true, false_iff]; exact fun h => hh h.2.2.2.2))
    clear hh HAL
    go_enter Tryd.func57, Tryd.ntmps57
    go_wp2_with fail
    go_region
    all_goals go_wp2_with fail
    all_goals go_quiet (fail)
    all_goals go_wp2
    all_goals go_ret
    all_goals exact ⟨⟨_, rfl, HP.out⟩, by first | exact (Below.refl _ _).drew.drew | exact below_drewN (Below.refl _ _).drew _ | exact (Below.refl _ _).drew⟩
  have e0 : ((kx.length : Int) == (ky.length : Int)) = true := by simp; omega
  have HP := Lib.hid (HAL true ⟨fun _ => ⟨rfl, H5.out, rfl, rfl, hh⟩, fun _ => rfl⟩)
  clear hh HAL
  go_enter Tryd.func57, Tryd.ntmps57
  go_wp2_with fail
  go_region
  all_goals go_wp2_with fail
  all_goals go_quiet (fail)
  all_goals go_wp2
  all_goals go_ret
  all_goals exact ⟨⟨_, rfl, ⟨fun _ => HP.out.1 trivial, fun _ => rfl⟩⟩, by first | exact (Below.refl _ _).drew.drew | exact below_drewN (Below.refl _ _).drew _ | exact (Below.refl _ _).drew⟩
end Go.Proofs.YtncebhddcokkoaaDoor
/- A store and what it says: find, alike, merge. -/
namespace Go.Proofs.YtncebhddcokkoaaDoor
open Go.RowKit
set_option linter.unusedSimpArgs false
set_option linter.unusedVariables false
/-- What is marked as plain is one tree alone; no walk is to come. -/
structure Ex (c : Cfg) (L : List Nd) (A : Abs) : Prop where
  pl : ∀ i x, L[i]? = some x → x.pl = true → ∀ θ θ', A.Mod θ → A.Mod θ' → θ i = θ' i
  wk : ∀ x ∈ L, x.wk ≤ c.wks
theorem SameBe.back {L M : List Nd} (h : SameBe L M) {i : Nat} {y : Nd} (hy : M[i]? = some y) : ∃ x b, L[i]? = some x ∧ y = { x with be := b } := by
  have hi := (List.getElem?_eq_some_iff.1 hy).1
  have hx : L[i]? = some (L[i]'(by have := h.1; omega)) := List.getElem?_eq_getElem _
  obtain ⟨b, e⟩ := h.2 i _ y hx hy
  exact ⟨_, b, hx, e⟩
theorem Ex.same {c : Cfg} {L M : List Nd} {A : Abs} (h : Ex c L A) (hs : SameBe L M) : Ex c M A := by
  refine ⟨fun i y hy hp => ?_, fun y hy => ?_⟩
  · obtain ⟨x, b, hx, rfl⟩ := hs.back hy
    exact h.pl i x hx hp
  · obtain ⟨i, hi⟩ := List.getElem?_of_mem hy
    obtain ⟨x, b, hx, rfl⟩ := hs.back hi
    exact h.wk x (List.mem_of_getElem? hx)
/-- A store that says this. -/
def St (c : Cfg) (A : Abs) (w : World) : Prop := ∃ v L rk, StL c v L w ∧ Rep rk L A ∧ Ex c L A
theorem Rep.len {rk : Nat → Nat} {L : List Nd} {A : Abs} (h : Rep rk L A) : A.l.length = L.length := by rw [h.l, List.length_map]
theorem Rep.at {rk : Nat → Nat} {L : List Nd} {A : Abs} (h : Rep rk L A) {i : Nat} {x : Nd} (hx : L[i]? = some x) : A.l[i]? = some x.i := by rw [h.l, List.getElem?_map, hx]; rfl
theorem Rep.back {rk : Nat → Nat} {L : List Nd} {A : Abs} (h : Rep rk L A) {i : Nat} {y : Inf} (hy : A.l[i]? = some y) : ∃ x, L[i]? = some x ∧ x.i = y := by
  rw [h.l, List.getElem?_map] at hy
  cases hx : L[i]? with
  | none => rw [hx] at hy; cases hy
  | some x => rw [hx] at hy; exact ⟨x, rfl, by simpa using hy⟩
theorem find_st {c : Cfg} {A : Abs} {w : World} (h : St c A w) {i : Nat} (hi : i < A.l.length) :
    Calls Tryd.prog 55 #[.pointer (some ⟨c.B, 0, none⟩), .int .i64 i] w fun e w' => e = .returned (.int .i64 (A.r i : Nat)) ∧ St c A w' ∧ Kp c w w' := by
  obtain ⟨v, L, rk, h1, h2, h3⟩ := h
  refine (find_any c rk v L A w i h1 h2 (by rw [← h2.len]; exact hi)).mono ?_
  rintro e w' ⟨rfl, L', k1, k2, k3, k4, _⟩
  exact ⟨rfl, ⟨v, L', rk, k1, k2, h3.same k3⟩, k4⟩
theorem alike_st {c : Cfg} {A : Abs} {w : World} (h : St c A w) {i j : Nat} {x y : Inf} (hx : A.l[i]? = some x) (hy : A.l[j]? = some y) :
    Calls Tryd.prog 57 #[.pointer (some ⟨c.B, 0, none⟩), .int .i64 i, .int .i64 j] w fun e w' => (∃ b, e = .returned (.bool b) ∧ (b = true ↔ Abs.Alike x y)) ∧ Below w.heap.size w w' := by
  obtain ⟨v, L, rk, h1, h2, h3⟩ := h
  obtain ⟨nx, hnx, rfl⟩ := h2.back hx
  obtain ⟨ny, hny, rfl⟩ := h2.back hy
  exact alike_any c v L w i j nx ny h1 hnx hny
theorem St.below {c : Cfg} {A : Abs} {w w' : World} (h : St c A w) (hb : Below w.heap.size w w') : St c A w' := by
  obtain ⟨v, L, rk, h1, h2, h3⟩ := h
  exact ⟨v, L, rk, h1.below hb, h2, h3⟩
theorem St.lt {c : Cfg} {A : Abs} {w : World} (h : St c A w) : c.B < w.heap.size ∧ c.b0 ≤ c.B := by
  obtain ⟨v, L, rk, h1, h2, h3⟩ := h
  exact ⟨h1.lt, h1.hb⟩
/-- One root becomes another one. -/
theorem Rep.bind {rk : Nat → Nat} {L : List Nd} {A : Abs} (h : Rep rk L A) {a b : Nat} {x : Nd} (hx : L[a]? = some x) (ha : A.r a = a) (hb : A.r b = b) (hbl : b < L.length) (hab : a ≠ b) :
    Rep (fun i => if A.r i = a then rk i + rk b + 1 else rk i) (L.set a { x with be := (b : Int) }) (A.bind a b A.lv) := by
  have key : ∀ i z, (L.set a { x with be := (b : Int) })[i]? = some z → (i = a ∧ z = { x with be := (b : Int) }) ∨ (i ≠ a ∧ L[i]? = some z) := by
    intro i z hz
    rw [List.getElem?_set] at hz
    by_cases e : a = i
    · rw [if_pos e] at hz
      subst e
      rw [if_pos (List.getElem?_eq_some_iff.1 hx).1] at hz
      cases hz
      exact .inl ⟨rfl, rfl⟩
    · rw [if_neg e] at hz
      exact .inr ⟨fun e2 => e e2.symm, hz⟩
  refine ⟨?_, fun i z hz => ?_, fun i z hz => ?_⟩
  · show A.l = _
    rw [h.l]
    apply List.ext_getElem?
    intro i
    rw [List.getElem?_map, List.getElem?_map, List.getElem?_set]
    by_cases e : a = i
    · rw [if_pos e]
      subst e
      rw [if_pos (List.getElem?_eq_some_iff.1 hx).1, hx]; rfl
    · rw [if_neg e]
  · rcases key i z hz with ⟨rfl, rfl⟩ | ⟨_, hz⟩
    · exact h.lv i x hx
    · exact h.lv i z hz
  · rw [List.length_set]
    show (z.be < 0 ∧ (if A.r i = a then b else A.r i) = i) ∨ ∃ j : Nat, z.be = (j : Int) ∧ j < L.length ∧ (if A.r j = a then b else A.r j) = (if A.r i = a then b else A.r i) ∧ (if A.r j = a then rk j + rk b + 1 else rk j) < (if A.r i = a then rk i + rk b + 1 else rk i)
    rcases key i z hz with ⟨rfl, rfl⟩ | ⟨hne, hz⟩
    · right
      refine ⟨b, rfl, hbl, ?_, ?_⟩
      · rw [hb, ha, if_pos rfl, if_neg (fun e => hab e.symm)]
      · rw [hb, ha, if_pos rfl, if_neg (fun e => hab e.symm)]; omega
    · rcases h.be i z hz with ⟨h1, h2⟩ | ⟨j, h1, h2, h3, h4⟩
      · left
        refine ⟨h1, ?_⟩
        rw [h2, if_neg hne]
      · right
        refine ⟨j, h1, h2, by rw [h3], ?_⟩
        rw [h3]
        split <;> omega
theorem Rep.lt {rk : Nat → Nat} {L : List Nd} {A : Abs} (h : Rep rk L A) (hA : A.Ok) {i : Nat} (hi : i < A.l.length) : ∃ x, L[A.r i]? = some x := by
  have := hA.lt i hi
  rw [h.len] at this
  exact ⟨_, List.getElem?_eq_getElem this⟩
set_option maxRecDepth 100000 in
set_option maxHeartbeats 1000000 in
theorem merge_st {c : Cfg} {A : Abs} {w : World} (h : St c A w) (hA : A.Ok) {i j : Nat} (hi : i < A.l.length) (hj : j < A.l.length) :
    Calls Tryd.prog 54 #[.pointer (some ⟨c.B, 0, none⟩), .int .i64 i, .int .i64 j] w fun e w' => e = .returned (.tuple #[]) ∧ St c (if A.r i = A.r j then A else A.bind (A.r i) (A.r j) A.lv) w' ∧ Kp c w w' := by
  have HF := Lib.hid fun W (hW : St c A W) => find_st hW hi
  have HG := Lib.hid fun W (hW : St c A W) => find_st hW hj
  have HS := Lib.hid h
  clear h
  by_cases hij : A.r i = A.r j
  · rw [if_pos hij]
    have e0 : (((A.r i : Nat) : Int) != ((A.r j : Nat) : Int)) = false := by simp [hij]
    have HIJ := Lib.hid hij
    clear hij
    go_enter Tryd.func54, Tryd.ntmps54
    go_wp2_with (first
      | (go_at_call 55; (with_reducible refine (HF.out _ HS.out).mono ?_); rintro e w1 ⟨rfl, h1, k1⟩; have HS1 := Lib.hid h1; have HK1 := Lib.hid k1; clear h1 k1)
      | (go_at_call 55; (with_reducible refine (HG.out _ HS1.out).mono ?_); rintro e w2 ⟨rfl, h2, k2⟩; have HS2 := Lib.hid h2; have HK2 := Lib.hid (HK1.out.trans k2); clear h2 k2))
    all_goals
      go_end0
      exact ⟨rfl, HS2.out, HK2.out⟩
  · rw [if_neg hij]
    have hne : ((A.r i : Nat) : Int) ≠ ((A.r j : Nat) : Int) := by omega
    have HO := Lib.hid hA
    go_enter Tryd.func54, Tryd.ntmps54
    go_wp2_with (first
      | (go_at_call 55; (with_reducible refine (HF.out _ HS.out).mono ?_); rintro e w1 ⟨rfl, h1, k1⟩; have HS1 := Lib.hid h1; have HK1 := Lib.hid k1; clear h1 k1)
      | (go_at_call 55; (with_reducible refine (HG.out _ HS1.out).mono ?_); rintro e w2 ⟨rfl, h2, k2⟩; have HK2 := Lib.hid (HK1.out.trans k2); (obtain ⟨v, L, rk, p1, p2, p3⟩ := h2); (obtain ⟨x, hx⟩ := p2.lt HO.out hi); (obtain ⟨g, cap, rfl, hgB, hg0, hc1, hc2, s0, s1, s2, s3, s4, x0, x1, x2, x3, x4, x5, x6, x7, x8, hfz⟩ := p1.at hx); have hfz6 := hfz (A.r i * 9 + 6); have hlt1 : ((A.r i : Nat) : Int) < (L.length : Int) := (by have := (List.getElem?_eq_some_iff.1 hx).1; omega); have P1 := Lib.hid p1; have P2 := Lib.hid p2; have P3 := Lib.hid p3; have HX := Lib.hid hx; clear k2 p1 p2 p3 hx s1 s2 s3 s4 x0 x1 x2 x3 x4 x5 x7 x8 hfz))
    all_goals
      go_end0
      obtain ⟨q1, q2⟩ := StL.put (y := { x with be := ((A.r j : Nat) : Int) }) P1.out HX.out (f := 6) (u := .int .i64 ((A.r j : Nat) : Int)) (by omega) (fun q => by
        match q with
        | 0 => rfl
        | 1 => rfl
        | 2 => rfl
        | 3 => rfl
        | 4 => rfl
        | 5 => rfl
        | 6 => rfl
        | 7 => rfl
        | 8 => rfl
        | q + 9 => rfl) rfl rfl
      have hjl : A.r j < L.length := by have := hA.lt j hj; rw [P2.out.len] at this; exact this
      have hil : A.r i < A.l.length := hA.lt i hi
      refine ⟨rfl, ⟨_, _, _, q1, P2.out.bind HX.out (hA.idem i) (hA.idem j) hjl hij, ?_⟩, HK2.out.trans q2⟩
      have hx2 := P3.out.same (SameBe.set HX.out ((A.r j : Nat) : Int))
      exact ⟨fun a z hz hp θ θ' h1 h2 => hx2.pl a z hz hp θ θ' ((Abs.bind_mod hA (hA.idem i) (hA.idem j) hil (hA.lt j hj) θ).1 h1).1 ((Abs.bind_mod hA (hA.idem i) (hA.idem j) hil (hA.lt j hj) θ').1 h2).1, hx2.wk⟩
end Go.Proofs.YtncebhddcokkoaaDoor
