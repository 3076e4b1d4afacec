
/- Tokens in memory; a token, as it is told. -/
import Derived.Test.YtpedmkdpbdhenaaGreatDoorLp
import Derived.Lib.AppendIntMem
namespace Go.Proofs.YtpedmkdpbdhenaaGreatDoor
open Go.RowKit
set_option linter.unusedSimpArgs false
set_option linter.unusedVariables false
abbrev Tab (w : World) : Prop := Lib.TabBelow Tryz.prog w.heap.size w "internal/strconv.uint64pow10" .u64 Lib.pow10Tab
theorem Tab.on {w w' : World} (h : Tab w) (hb : Below w.heap.size w w') : Tab w' := fun u hu => h u (hb.trans (hu.mono hb.size))
/-- The tables that the lexer looks at. -/
def LxW (w : World) : Prop := EscW w ∧ Tab w
theorem LxW.below {w w' : World} (h : LxW w) (hb : Below w.heap.size w w') : LxW w' := by
  exact ⟨h.1.below hb h.1.pos, h.2.on hb⟩
/-- A number that an int may be. -/
def Fits (t : Tk) : Prop := -9223372036854775808 ≤ t.n ∧ t.n ≤ 9223372036854775807
theorem itoaT_any (n : Int) (h0 : -9223372036854775808 ≤ n) (h : n ≤ 9223372036854775807) (w : World) (ht : Tab w) : Calls Tryz.prog 21 #[.int .i64 n] w fun e w' => e = .returned (.string (ofL (Lib.itoa n))) ∧ Below w.heap.size w w' :=
  (Tryz.strconv_Itoa n h0 h w (Lib.TabBelow.here ht)).mono fun e w' ⟨he, k, os, hw⟩ => ⟨he, by rw [hw]; exact Lib.below_grow _ w (Nat.le_refl _) k os⟩
theorem str_add (a b : ByteArray) : a ++ b = ofL (a.data.toList ++ b.data.toList) := by
  apply ByteArray.ext
  simp [ofL]
set_option maxHeartbeats 4000000 in
theorem tell_any (t : Tk) (a : Int) (hm : t.s.size ≤ 4194304) (hf : Fits t) (w : World) (hw : LxW w) :
    Calls Tryz.prog 15 #[t.v a] w fun e w' => e = .returned (.string (ofL (tellT t))) ∧ Below w.heap.size w w' := by
  obtain ⟨k, s, n⟩ := t
  have hm' : s.size ≤ 4194304 := hm
  have hf0 : -9223372036854775808 ≤ n := hf.1
  have hf1 : n ≤ 9223372036854775807 := hf.2
  have HW := Lib.hid hw
  clear hw hm hf
  unfold Tk.v
  show Calls Tryz.prog 15 #[.agg #[.int .i64 k, .string s, .int .i64 n, .int .i64 a]] w _
  by_cases h3 : k = 3
  · subst h3
    have he : tellT ⟨3, s, n⟩ = 39 :: s.data.toList := rfl
    have hs : (⟨#[39]⟩ : ByteArray) ++ s = ofL (39 :: s.data.toList) := str_add _ _
    rw [he]
    go_enter Tryz.func15, Tryz.ntmps15
    go_wp2
    go_ret
    exact ⟨rfl, below_alloc w _⟩
  by_cases h4 : k = 4
  · subst h4
    have he : tellT ⟨4, s, n⟩ = Lib.itoa n := rfl
    rw [he]
    have HI := Lib.hid (fun W hW => itoaT_any n hf0 hf1 W hW)
    go_enter Tryz.func15, Tryz.ntmps15
    go_wp2_with (go_at_call 21; refine (HI.out _ (HW.out.below (below_alloc w _)).2).mono ?_; rintro e w1 ⟨rfl, hb⟩)
    go_ret
    exact ⟨rfl, (below_alloc w _).trans (hb.mono (by simp))⟩
  by_cases h5 : k = 5
  · subst h5
    have he : tellT ⟨5, s, n⟩ = telL s.data.toList := rfl
    rw [he]
    have HI := Lib.hid (fun W hW => tellText_any s hm' W hW)
    go_enter Tryz.func15, Tryz.ntmps15
    go_wp2_with (go_at_call 22; refine (HI.out _ (HW.out.below (below_alloc w _)).1).mono ?_; rintro e w1 ⟨rfl, hb⟩)
    go_ret
    exact ⟨rfl, (below_alloc w _).trans (hb.mono (by simp))⟩
  have he : ofL (tellT ⟨k, s, n⟩) = s := by
    unfold tellT
    rw [if_neg h3, if_neg h4, if_neg h5]
  rw [he]
  clear he
  have d3 : (k == 3) = false := by rw [beq_eq_false_iff_ne]; exact h3
  have d4 : (k == 4) = false := by rw [beq_eq_false_iff_ne]; exact h4
  have d5 : (k == 5) = false := by rw [beq_eq_false_iff_ne]; exact h5
  go_enter Tryz.func15, Tryz.ntmps15
  go_wp2
  go_ret
  exact ⟨rfl, below_alloc w _⟩
theorem no_any (e0 : Int) (w : World) : Calls Tryz.prog 10 #[.int .i64 e0] w fun e w' => e = .returned (.int .i64 e0) ∧ w = w' := by
  go_enter Tryz.func10, Tryz.ntmps10
  go_wp2
  go_ret
  exact ⟨rfl, rfl⟩
/-- A token in memory. -/
def TkAt (w : World) (b o : Nat) (t : Tk) (a : Int) : Prop :=
  w.cell? ⟨b, o, none⟩ = some (.int .i64 t.k) ∧ w.cell? ⟨b, o + 1, none⟩ = some (.string t.s) ∧ w.cell? ⟨b, o + 2, none⟩ = some (.int .i64 t.n) ∧ w.cell? ⟨b, o + 3, none⟩ = some (.int .i64 a)
theorem TkAt.below {w w' : World} {b o : Nat} {t : Tk} {a : Int} (h : TkAt w b o t a) (hb : Below w.heap.size w w') : TkAt w' b o t a := by
  have hlt : b < w.heap.size := block_lt_of_cell h.1
  have hk : ∀ j, w'.cell? ⟨b, j, none⟩ = w.cell? ⟨b, j, none⟩ := fun j => hb.cell (p := ⟨b, j, none⟩) hlt
  exact ⟨by rw [hk, h.1], by rw [hk, h.2.1], by rw [hk, h.2.2.1], by rw [hk, h.2.2.2]⟩
/-- A slice of tokens, each with its place. -/
def TksAt (w : World) (v : Value) (l : List (Tk × Int)) : Prop := ∃ q c, v = .slice q l.length c ∧ ∀ i x, l[i]? = some x → ∃ b o, q = some ⟨b, o, none⟩ ∧ TkAt w b (o + i * 4) x.1 x.2
theorem TksAt.below {w w' : World} {v : Value} {l : List (Tk × Int)} (h : TksAt w v l) (hb : Below w.heap.size w w') : TksAt w' v l := by
  obtain ⟨q, c, h1, h2⟩ := h
  refine ⟨q, c, h1, fun i x hx => ?_⟩
  obtain ⟨b, o, e, ha⟩ := h2 i x hx
  exact ⟨b, o, e, ha.below hb⟩
/-- Two lists of tokens, the same but for their places. -/
def Agr (k : Nat) (l m : List (Tk × Int)) : Prop := ∀ (j : Nat) x y, j < k → l[j]? = some x → m[j]? = some y → x.1 = y.1
theorem agr_next {k : Nat} {l m : List (Tk × Int)} {x y : Tk × Int} (h : Agr k l m) (hx : l[k]? = some x) (hy : m[k]? = some y) (he : x.1 = y.1) : Agr (k + 1) l m := by
  intro j u v hj hu hv
  by_cases e : j = k
  · subst e
    rw [hx] at hu
    rw [hy] at hv
    cases hu
    cases hv
    exact he
  · exact h j u v (by omega) hu hv
theorem agr_not {k : Nat} {l m : List (Tk × Int)} {x y : Tk × Int} (hx : l[k]? = some x) (hy : m[k]? = some y) (he : x.1 ≠ y.1) : l.map Prod.fst ≠ m.map Prod.fst := by
  intro e
  have h := congrArg (fun l => l[k]?) e
  simp only [List.getElem?_map, hx, hy, Option.map_some, Option.some.injEq] at h
  exact he h
noncomputable def sameB (l m : List (Tk × Int)) : Bool := @decide (l.map Prod.fst = m.map Prod.fst) (Classical.propDecidable _)
theorem sameB_yes {l m : List (Tk × Int)} (h : l.map Prod.fst = m.map Prod.fst) : sameB l m = true := @decide_eq_true _ (Classical.propDecidable _) h
theorem sameB_no {l m : List (Tk × Int)} (h : l.map Prod.fst ≠ m.map Prod.fst) : sameB l m = false := @decide_eq_false _ (Classical.propDecidable _) h
theorem agr_all {l m : List (Tk × Int)} (hl : l.length = m.length) (h : Agr l.length l m) : l.map Prod.fst = m.map Prod.fst := by
  apply List.ext_getElem?
  intro j
  rw [List.getElem?_map, List.getElem?_map]
  rcases Nat.lt_or_ge j l.length with hj | hj
  · have h1 := List.getElem?_eq_getElem hj
    have h2 := List.getElem?_eq_getElem (l := m) (by omega : j < m.length)
    rw [h1, h2]
    exact congrArg some (h j _ _ hj h1 h2)
  · rw [List.getElem?_eq_none hj, List.getElem?_eq_none (by omega)]
end Go.Proofs.YtpedmkdpbdhenaaGreatDoor
