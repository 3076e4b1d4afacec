/- Texts in a row: Zn Yd Ye. -/
import Derived.Test.YtncebhddcokkoaaDoorZM13
import Derived.Test.YtncebhddcokkoaaDoorZM14
import Derived.Test.YtncebhddcokkoaaDoorZM11
import Derived.Test.YtncebhddcokkoaaDoorZM4
/- Canonical forms tell which types are the same; what SchemeOrder puts in (mathematics). -/
namespace Go.Proofs.YtncebhddcokkoaaDoor
open Go.RowKit
set_option linter.unusedVariables false
theorem put1_nodup {ns : List ByteArray} {k : Int} {n : ByteArray} (h : ns.Nodup) : (put1 ns k n).Nodup := by
  unfold put1
  split
  · rename_i hc
    rw [List.nodup_append]
    refine ⟨h, by simp, fun a ha b hb e => ?_⟩
    rw [List.mem_singleton.1 hb] at e
    have := inN_iff.2 (e ▸ ha)
    rw [hc.2] at this
    cases this
  · exact h
theorem vars_nodup : ∀ {d : Nat} {t : Tm} {ns : List ByteArray}, ns.Nodup → (varsT d ns t).Nodup := by
  intro d
  induction d with
  | zero => intro t ns h; exact h
  | succ d ih =>
    intro t ns h
    obtain ⟨k, p, n, N, kids⟩ := t
    have key : ∀ (l : List Tm) (ns : List ByteArray), ns.Nodup → (l.foldl (varsT d) ns).Nodup := by
      intro l
      induction l with
      | nil => intro ns h; exact h
      | cons x l ihl => intro ns h; exact ihl _ (ih h)
    exact key kids _ (put1_nodup h)
theorem vars_mem {d : Nat} {t : Tm} {v : ByteArray} (h : hasV d t v) : v ∈ varsT d [] t := inN_iff.1 ((inN_varsT d [] t).2 (.inr h))
theorem sameM_iff {a b : Tm} {r : Bool} (h : SameM a b r) : r = true ↔ Ab a b ∧ Ab b a := by
  obtain ⟨r1, h1, h2, h3⟩ := h
  cases r1 with
  | false =>
    have h4 := mt_iff h1
    rw [h2 rfl]
    constructor
    · intro e; cases e
    · rintro ⟨e, _⟩
      exact absurd (h4.2 e) (by simp)
  | true =>
    have h4 := (mt_iff h1).1 rfl
    have h5 := mt_iff (h3 rfl)
    rw [h5]
    exact ⟨fun e => ⟨h4, e⟩, fun e => e.2⟩
theorem nodup_le : ∀ {l m : List ByteArray}, l.Nodup → (∀ x ∈ l, x ∈ m) → l.length ≤ m.length := by
  intro l
  induction l with
  | nil => intro m _ _; simp
  | cons x l ih =>
    intro m hn hs
    rw [List.nodup_cons] at hn
    have hx := hs x (by simp)
    obtain ⟨a, b, rfl⟩ := List.append_of_mem hx
    have h1 := ih (m := a ++ b) hn.2 fun y hy => by
      have h3 := hs y (by simp [hy])
      have hne : y ≠ x := fun e => hn.1 (by rw [← e]; exact hy)
      simp only [List.mem_append, List.mem_cons] at h3 ⊢
      rcases h3 with h3 | h3 | h3
      · exact .inl h3
      · exact absurd h3 hne
      · exact .inr h3
    simp only [List.length_cons, List.length_append] at h1 ⊢
    omega
/-- A type that may be gone through: so deep, so large, so many names. -/
structure Gd (d : Nat) (t : Tm) (z v : Nat) : Prop where
  ty : Ty d t
  sm : Sm d t
  sz : tszN d t ≤ z
  vs : (varsT d [] t).length ≤ v
theorem Gd.more {d z v : Nat} {t : Tm} (h : Gd d t z v) {d' z' v' : Nat} (hd : d ≤ d') (hz : z ≤ z') (hv : v ≤ v') : Gd d' t z' v' := by
  refine ⟨h.ty.more _ hd, Sm.all h.ty.dp h.sm _, by rw [tsz_dp h.ty.dp d' hd]; exact Nat.le_trans h.sz hz, ?_⟩
  have h1 := nodup_le (l := varsT d' [] t) (m := varsT d [] t) (vars_nodup (by simp)) fun x hx => by
    have h2 := (inN_varsT d' [] t).1 (inN_mem hx)
    rcases h2 with h2 | h2
    · simp [inN] at h2
    · exact vars_mem (hasV_le h.ty.dp _ h2)
  have := h.vs
  omega
/-- Two types put in the place of two variables. -/
def putT (d : Nat) (t x y : Tm) : Tm := sub (byOf (fg [⟨#[97]⟩, ⟨#[98]⟩] 2) [x, y]) d t
theorem Gd.put {d : Nat} {t x y : Tm} (h : Gd d t 40 600) (hx : Gd d x 600 600) (hy : Gd d y 600 600) : Gd (d + d) (putT d t x y) 24000 2600 := by
  have hm : ∀ z ∈ [x, y], Gd d z 600 600 := by
    intro z hz
    rcases List.mem_cons.1 hz with rfl | hz
    · exact hx
    · rw [List.mem_singleton.1 hz]; exact hy
  refine ⟨Ty.sub (fun n z e => (hm z (byOf_mem e)).ty) h.ty, sub_sm (fun n z e => Sm.all (hm z (byOf_mem e)).ty.dp (hm z (byOf_mem e)).sm) h.ty.dp h.sm _, ?_, ?_⟩
  · have h1 := tszN_sub (σ := byOf (fg [⟨#[97]⟩, ⟨#[98]⟩] 2) [x, y]) (K := 600) (by omega) (fun n z e D => Nat.le_trans (tszN_le (hm z (byOf_mem e)).ty.dp D) (hm z (byOf_mem e)).sz) h.ty.dp (d + d)
    have h2 := h.sz
    unfold putT
    omega
  · have h1 := nodup_le (l := varsT (d + d) [] (putT d t x y)) (m := varsT d [] t ++ [x, y].foldl (varsT d) []) (vars_nodup (by simp)) fun v hv => by
      rcases vars_new (e := d) h.ty.dp (fun z hz => (hm z hz).ty.dp) hv with h2 | h2
      · exact List.mem_append_left _ (inN_iff.1 h2)
      · exact List.mem_append_right _ (inN_iff.1 h2)
    have h2 : ([x, y].foldl (varsT d) []).length ≤ 1200 := by
      have e1 := varsT_length d [] x
      have e2 := varsT_length d (varsT d [] x) y
      have e3 := hx.sz
      have e4 := hy.sz
      simp only [List.foldl_cons, List.foldl_nil]
      simp at e1
      omega
    have h3 := h.vs
    rw [List.length_append] at h1
    omega
end Go.Proofs.YtncebhddcokkoaaDoor
/- Canon of the chapter's example. -/
namespace Go.Proofs.YtncebhddcokkoaaDoor
open Go.RowKit
abbrev tA : ByteArray := ⟨#[97]⟩
abbrev tB : ByteArray := ⟨#[98]⟩
theorem canon_vars : varsT 2 [] (funT tB tA) = [tB, tA] := by decide +kernel
theorem nm_0 : nmB 0 = tA := by decide +kernel
theorem nm_1 : nmB 1 = tB := by decide +kernel
theorem canon_is : canonT 2 (funT tB tA) = funT tA tB := by
  have h : nmT 2 = [vT tA, vT tB] := by
    show [vT (nmB 0), vT (nmB 1)] = _
    rw [nm_0, nm_1]
  unfold canonT
  rw [canon_vars]
  show sub (byOf (fg [tB, tA] 2) (nmT 2)) 2 (funT tB tA) = funT tA tB
  rw [h]
  rfl
def CanonP (w : World) (e : Ending) (w' : World) : Prop := ∃ q c d, e = .returned (tv 3 ⟨#[]⟩ ⟨#[]⟩ 0 (.slice q 2 c)) ∧ IsT w' d (tv 3 ⟨#[]⟩ ⟨#[]⟩ 0 (.slice q 2 c)) (funT tA tB) ∧ Below w.heap.size w w'
theorem canon_any (q : Option Addr) (c : Nat) (w : World) (h : IsT w 2 (tv 3 ⟨#[]⟩ ⟨#[]⟩ 0 (.slice q 2 c)) (funT tB tA)) : Calls Tryd.prog 61 #[tv 3 ⟨#[]⟩ ⟨#[]⟩ 0 (.slice q 2 c)] w (CanonP w) := by
  refine (canonA_any 2 _ _ w h (by simp [Sm, funT]) (by decide +kernel) (by rw [canon_vars]; decide)).mono ?_
  rintro e w' ⟨k, p, n, N, q, l, c, rfl, hx, hb⟩
  rw [canon_is] at hx
  have h2 := hx.isT
  obtain ⟨q', c', e', _⟩ := h2
  cases e'
  exact ⟨_, _, _, rfl, hx.isT, hb⟩
end Go.Proofs.YtncebhddcokkoaaDoor
/- The chapter's examples. -/
namespace Go.Proofs.YtncebhddcokkoaaDoor
open Go.RowKit
theorem ab_ne : tB ≠ tA := by decide
/-- 'a -> 'b is above 'a -> 'a. -/
theorem mt_yes : Mt [(funT tA tB, funT tA tA)] (fun _ => none) true := by
  refine Mt.go (by decide) rfl ?_
  refine Mt.new (p := ⟨#[]⟩) (n := tB) (N := 0) (l := []) (s := vT tA) (rest := [(vT tA, vT tA)]) rfl ?_
  refine Mt.new (p := ⟨#[]⟩) (n := tA) (N := 0) (l := []) (s := vT tA) (rest := []) ?_ Mt.done
  unfold upV
  rw [if_neg (by decide)]
/-- .. and not the other way. -/
theorem mt_no : Mt [(funT tA tA, funT tA tB)] (fun _ => none) false := by
  refine Mt.go (by decide) rfl ?_
  refine Mt.new (p := ⟨#[]⟩) (n := tA) (N := 0) (l := []) (s := vT tB) (rest := [(vT tA, vT tA)]) rfl ?_
  refine Mt.clash (p := ⟨#[]⟩) (n := tA) (N := 0) (l := []) (s := vT tA) (y := vT tB) (rest := []) ?_ ?_
  · unfold upV
    rw [if_pos rfl]
  · unfold vT
    intro h
    injection h with _ _ h
    exact ab_ne h
theorem two_fun {w : World} {va vb : Value} {a b c d : ByteArray} (h1 : IsT w 2 va (funT a b)) (h2 : IsT w 2 vb (funT c d)) : Two w 2 va vb (funT a b) (funT c d) :=
  ⟨h1, h2, by simp [Sm, funT], by simp [Sm, funT], by simp [tszN, funT], by simp [tszN, funT]⟩
def AliveP (w : World) (e : Ending) (w' : World) : Prop := e = .returned (.bool true) ∧ Below w.heap.size w w'
set_option maxRecDepth 100000 in
set_option maxHeartbeats 4000000 in
theorem alive_any (w : World) : Calls Tryd.prog 34 #[] w (AliveP w) := by
  have hA : tA.size ≤ maxLen := by decide
  have hB : tB.size ≤ maxLen := by decide
  have F1 := Lib.hid (fun W => fun_any tB tA hB hA W)
  have F2 := Lib.hid (fun W => fun_any tA tB hA hB W)
  have F3 := Lib.hid (fun W => fun_any tA tA hA hA W)
  have HBL := Lib.hid (Below.refl w.heap.size w)
  clear hA hB
  go_enter Tryd.func34, Tryd.ntmps34
  go_wp2_with (first
    | (go_at_call 62; (with_reducible refine (F1.out _).mono ?_); rintro e w1 ⟨q1, c1, rfl, hi, hb⟩; have HBL := Lib.hid (HBL.out.trans (hb.mono HBL.out.size)); have HI1 := Lib.hid hi; clear hi hb)
    | (go_at_call 61; (with_reducible refine (canon_any q1 c1 _ HI1.out).mono ?_); rintro e w2 ⟨q2, c2, d2, rfl, hi, hb⟩; have HBL := Lib.hid (HBL.out.trans (hb.mono HBL.out.size)); have HI2 := Lib.hid hi; clear hi hb)
    | (go_at_call 62; (with_reducible refine (F2.out _).mono ?_); rintro e w3 ⟨q3, c3, rfl, hi, hb⟩; have HBL := Lib.hid (HBL.out.trans (hb.mono HBL.out.size)); (try have HI2 := Lib.hid (HI2.out.below hb)); have HIab := Lib.hid hi; (try have HIaa := Lib.hid (HIaa.out.below hb)); clear hi hb)
    | (go_at_call 62; (with_reducible refine (F3.out _).mono ?_); rintro e w4 ⟨q4, c4, rfl, hi, hb⟩; have HBL := Lib.hid (HBL.out.trans (hb.mono HBL.out.size)); have HIab := Lib.hid (HIab.out.below hb); have HIaa := Lib.hid hi; clear hi hb)
    | (go_at_call 17; (with_reducible refine (refSame_any (d2 + 2) _ _ _ _ _ (HI2.out.more (by omega)) (HIab.out.more (by omega))).mono ?_); rintro e w5 ⟨he, hb⟩; rw [same_self] at he; subst he; have HBL := Lib.hid (HBL.out.trans (hb.mono HBL.out.size)); have HIab := Lib.hid (HIab.out.below hb); clear hb)
    | (go_at_call 37; (with_reducible refine (above_any 2 _ _ _ _ _ (two_fun HIab.out HIaa.out)).mono ?_); rintro e w6 ⟨r6, rfl, hm, hb⟩; obtain rfl := hm.det mt_yes; have HBL := Lib.hid (HBL.out.trans (hb.mono HBL.out.size)); have HIab := Lib.hid (HIab.out.below hb); clear hm hb)
    | (go_at_call 37; (with_reducible refine (above_any 2 _ _ _ _ _ (two_fun HIaa.out HIab.out)).mono ?_); rintro e w7 ⟨r7, rfl, hm, hb⟩; obtain rfl := hm.det mt_no; have HBL := Lib.hid (HBL.out.trans (hb.mono HBL.out.size)); clear hm hb)
    | (go_at_call 63; (with_reducible refine (name27 _).mono ?_); rintro e w8 ⟨rfl, rfl⟩))
  go_ret
  exact ⟨rfl, HBL.out⟩
end Go.Proofs.YtncebhddcokkoaaDoor
