/- Texts that are the same; a variable's term. -/
import Derived.Test.YthcpmdgdbceeiaaGreatDoorTe
import Derived.Deep.QuietTactic
import Derived.BigQuiet
import Derived.Deep.DeepCutAuto
namespace Go.Proofs.YthcpmdgdbceeiaaGreatDoor
open Go.RowKit
/-- A slice of texts. -/
def SRow (w : World) (v : Value) (l : List ByteArray) : Prop := ∃ q c, v = .slice q l.length c ∧ ∀ i s, l[i]? = some s → ∃ g, q = some ⟨g, 0, none⟩ ∧ w.cell? ⟨g, i, none⟩ = some (.string s)
theorem SRow.own {w : World} {base n : Nat} {v : Value} {l : List ByteArray} (hn : n = l.length) (h : w.ownsRow base 9 1 v n (l.map .string)) : SRow w v l := by
  subst hn
  rcases h.2 with ⟨rfl, h0⟩ | ⟨g, cap, cur, rfl, _, hb, _, _, _, h4⟩
  · have : l = [] := List.eq_nil_of_length_eq_zero h0
    subst this
    exact ⟨none, 0, rfl, fun i s hs => by simp at hs⟩
  · refine ⟨_, cap, rfl, fun i s hs => ⟨g, rfl, ?_⟩⟩
    have hi : i < l.length := (List.getElem?_eq_some_iff.1 hs).1
    rw [hb_cell hb, ← Array.getElem?_toList, ← List.getElem?_take_of_lt (l := cur.toList) (i := i) (j := l.length * 1) (by omega), h4, List.getElem?_map, hs]
    rfl
theorem SRow.below {w w' : World} {v : Value} {l : List ByteArray} (h : SRow w v l) (hb : Below w.heap.size w w') : SRow w' v l := by
  obtain ⟨q, c, rfl, h⟩ := h
  refine ⟨q, c, rfl, fun i s hs => ?_⟩
  obtain ⟨g, rfl, hc⟩ := h i s hs
  exact ⟨g, rfl, keep_cell hb hc⟩
def Drew2 (w w' : World) : Prop := ∃ n, w' = w.drewN n
set_option maxRecDepth 100000 in
set_option maxHeartbeats 1000000 in
theorem texts_eq (va vb : Value) (l : List ByteArray) (w : World) (ha : SRow w va l) (hb : SRow w vb l) (hl : l.length ≤ 1000) :
    Calls Tryz.prog 21 #[va, vb] w fun e w' => e = .returned (.bool true) ∧ Drew2 w w' := by
  obtain ⟨q1, c1, rfl, h1⟩ := ha
  obtain ⟨q2, c2, rfl, h2⟩ := hb
  have H1 := Lib.hid h1
  have H2 := Lib.hid h2
  clear h1 h2
  go_enter Tryz.func21, Tryz.ntmps21
  go_wp2
  go_loopw [5] (fun i wr => ∃ k : Nat, k ≤ l.length ∧ i = .int .i64 k ∧ Drew2 w wr) (fun i _ => l.length - (intOf i).toNat)
  case atStart => exact ⟨0, Nat.zero_le _, rfl, 0, rfl⟩
  case round =>
    obtain ⟨k, hk, rfl, n, rfl⟩ := hrel
    by_cases hlt : k < l.length
    · obtain ⟨g1, e1, ha1⟩ := H1.out k l[k] (List.getElem?_eq_getElem hlt)
      obtain ⟨g2, e2, ha2⟩ := H2.out k l[k] (List.getElem?_eq_getElem hlt)
      subst e1 e2
      generalize l[k] = x at *
      have hki : (k : Int) < (l.length : Int) := by omega
      go_wp2
      go_quiet (fail)
      go_wp2
      go_roundw
      case rel => exact ⟨k + 1, by omega, by go_num, _, rfl⟩
      case measure => simp [intOf]; omega
    · go_wp2
      go_ret
      exact ⟨rfl, n, rfl⟩
set_option maxRecDepth 100000 in
theorem tv_any (s : ByteArray) (w : World) : Calls Tryz.prog 27 #[.string s] w fun e w' => e = .returned (tv 1 ⟨#[]⟩ s 0 (.slice none 0 0)) ∧ w' = w.alloc (.cells #[.int .i64 1, .string ⟨#[]⟩, .string s, .int .i64 0, .slice none 0 0] 24) := by
  go_enter Tryz.func27, Tryz.ntmps27
  go_wp2
  exact bodyPost_ret (v := tv 1 ⟨#[]⟩ s 0 (.slice none 0 0)) (by simp [results, Tryz.results27, go_sem]) rfl ⟨rfl, rfl⟩
/-- The chapter's example of a type. -/
def tmA : Tm := .mk 1 ⟨#[]⟩ ⟨#[97]⟩ 0 []
def tmB : Tm := .mk 1 ⟨#[]⟩ ⟨#[98]⟩ 0 []
def tmList : Tm := .mk 2 ⟨#[]⟩ ⟨#[108, 105, 115, 116]⟩ 0 [tmB, tmA]
def exT : Tm := .mk 3 ⟨#[]⟩ ⟨#[]⟩ 0 [tmA, tmList]
theorem kids_none (w : World) (d : Nat) : KidsT w d (.slice none 0 0) [] := ⟨none, 0, rfl, Nat.zero_le _, fun i x hx => by simp at hx⟩
theorem leaf_is (w : World) (d : Nat) (k : Int) (n : ByteArray) (hn : n.size ≤ maxLen) : IsT w (d + 1) (tv k ⟨#[]⟩ n 0 (.slice none 0 0)) (.mk k ⟨#[]⟩ n 0 []) := IsT.shut (Nat.zero_le _) hn (kids_none w d)
theorem kids_two {w : World} {d g : Nat} {k1 k2 N1 N2 : Int} {p1 n1 p2 n2 : ByteArray} {s1 s2 : Value} {x y : Tm} (h : w.heap[g]? = some (.cells #[.int .i64 k1, .string p1, .string n1, .int .i64 N1, s1, .int .i64 k2, .string p2, .string n2, .int .i64 N2, s2] 24 (0, 0)))
    (h1 : IsT w d (tv k1 p1 n1 N1 s1) x) (h2 : IsT w d (tv k2 p2 n2 N2 s2) y) : KidsT w d (.slice (some ⟨g, 0, none⟩) 2 2) [x, y] := by
  refine ⟨_, 2, rfl, by unfold maxLen; simp, fun i z hz => ?_⟩
  match i, hz with
  | 0, hz => cases hz; exact ⟨g, 0, k1, p1, n1, N1, s1, rfl, ⟨hb_at h 0 rfl, hb_at h 1 rfl, hb_at h 2 rfl, hb_at h 3 rfl, hb_at h 4 rfl⟩, h1⟩
  | 1, hz => cases hz; exact ⟨g, 0, k2, p2, n2, N2, s2, rfl, ⟨hb_at h 5 rfl, hb_at h 6 rfl, hb_at h 7 rfl, hb_at h 8 rfl, hb_at h 9 rfl⟩, h2⟩
  | i + 2, hz => simp at hz
theorem kids_one {w : World} {d g : Nat} {k1 N1 : Int} {p1 n1 : ByteArray} {s1 : Value} {x : Tm} (h : w.heap[g]? = some (.cells #[.int .i64 k1, .string p1, .string n1, .int .i64 N1, s1] 24 (0, 0)))
    (h1 : IsT w d (tv k1 p1 n1 N1 s1) x) : KidsT w d (.slice (some ⟨g, 0, none⟩) 1 1) [x] := by
  refine ⟨_, 1, rfl, by unfold maxLen; simp, fun i z hz => ?_⟩
  match i, hz with
  | 0, hz => cases hz; exact ⟨g, 0, k1, p1, n1, N1, s1, rfl, ⟨hb_at h 0 rfl, hb_at h 1 rfl, hb_at h 2 rfl, hb_at h 3 rfl, hb_at h 4 rfl⟩, h1⟩
  | i + 1, hz => simp at hz
theorem exT_type (d : Nat) : Holds 9 (d + 2) exT := by
  refine type_fun (d + 1) [tmA, tmList] rfl fun i x hx => ?_
  match i, hx with
  | 0, hx => cases hx; exact type_var (d + 1) ⟨#[97]⟩ ok_a
  | 1, hx =>
    cases hx
    refine type_con d ⟨#[108, 105, 115, 116]⟩ [tmB, tmA] ok_list fun i x hx => ?_
    match i, hx with
    | 0, hx => cases hx; exact type_var d ⟨#[98]⟩ ok_b
    | 1, hx => cases hx; exact type_var d ⟨#[97]⟩ ok_a
    | i + 2, hx => simp at hx
  | i + 2, hx => simp at hx
theorem exE_expr (d : Nat) : Holds 13 (d + 2) exE := by
  refine expr_fun (d + 1) ⟨#[120]⟩ [tmApp] ok_x rfl fun i x hx => ?_
  match i, hx with
  | 0, hx =>
    cases hx
    refine expr_app d [tmF, tmX] rfl fun i x hx => ?_
    match i, hx with
    | 0, hx => cases hx; exact expr_var d ⟨#[102]⟩ ok_f
    | 1, hx => cases hx; exact expr_var d ⟨#[120]⟩ ok_x
    | i + 2, hx => simp at hx
  | i + 1, hx => simp at hx
theorem exT_vars : [exT].foldl (varsT 3) [] = [⟨#[97]⟩, ⟨#[98]⟩] := by decide +kernel
theorem exT_room : [exT].foldl (fun n t => n + tszN 3 t) 0 ≤ 100000 := by decide +kernel
theorem exT_size : sz 3 exT = 5 := by decide +kernel
theorem srow_two {w : World} {g : Nat} {a b : ByteArray} (h : w.heap[g]? = some (.cells #[.string a, .string b] 9 (0, 0))) : SRow w (.slice (some ⟨g, 0, none⟩) 2 2) [a, b] :=
  ⟨_, 2, rfl, fun i s hs => ⟨g, rfl, by
    match i, hs with
    | 0, hs => cases hs; exact hb_at h 0 rfl
    | 1, hs => cases hs; exact hb_at h 1 rfl
    | i + 2, hs => simp at hs⟩⟩
theorem srow_one {w : World} {g : Nat} {a : ByteArray} (h : w.heap[g]? = some (.cells #[.string a] 9 (0, 0))) : SRow w (.slice (some ⟨g, 0, none⟩) 1 1) [a] :=
  ⟨_, 1, rfl, fun i s hs => ⟨g, rfl, by
    match i, hs with
    | 0, hs => cases hs; exact hb_at h 0 rfl
    | i + 1, hs => simp at hs⟩⟩
theorem size_lit (d : Nat) (v : Value) (x : Tm) (w : World) {n : Int} (h : IsT w d v x) (hn : sz d x = n) : Calls Tryz.prog 15 #[v] w fun e w' => e = .returned (.int .i64 n) ∧ Below w.heap.size w w' :=
  (size_any d v x w h).mono fun e w' ⟨h1, h2⟩ => ⟨by rw [h1, hn], h2⟩
/-- The two examples in memory. -/
structure ExSt (w W : World) : Prop where
  ty : W.heap[w.heap.size + 1 + 1 + 1 + 1 + 1]? = some (.cells #[.int .i64 3, .string ⟨#[]⟩, .string ⟨#[]⟩, .int .i64 0, .slice (some ⟨w.heap.size + 1 + 1 + 1 + 1, 0, none⟩) 2 2] 24 (0, 0))
  ex : W.heap[w.heap.size + 1 + 1 + 1 + 1 + 1 + 1 + 1 + 1]? = some (.cells #[.int .i64 26, .string ⟨#[]⟩, .string ⟨#[120]⟩, .int .i64 0, .slice (some ⟨w.heap.size + 1 + 1 + 1 + 1 + 1 + 1 + 1, 0, none⟩) 1 1] 24 (0, 0))
  tyT : IsT W 3 (tv 3 ⟨#[]⟩ ⟨#[]⟩ 0 (.slice (some ⟨w.heap.size + 1 + 1 + 1 + 1, 0, none⟩) 2 2)) exT
  exT : IsT W 3 (tv 26 ⟨#[]⟩ ⟨#[120]⟩ 0 (.slice (some ⟨w.heap.size + 1 + 1 + 1 + 1 + 1 + 1 + 1, 0, none⟩) 1 1)) exE
  below : Below w.heap.size w W
theorem ExSt.more {w W W' : World} (h : ExSt w W) (hb : Below W.heap.size W W') : ExSt w W' :=
  ⟨hb_below h.ty hb (hb_lt h.ty), hb_below h.ex hb (hb_lt h.ex), h.tyT.below hb, h.exT.below hb, h.below.trans (hb.mono h.below.size)⟩
theorem exSt_made (w : World) : ExSt w (((((((((w.alloc (.cells #[.int .i64 1, .string ⟨#[]⟩, .string ⟨#[97]⟩, .int .i64 0, .slice none 0 0] 24)).alloc (.cells #[.int .i64 1, .string ⟨#[]⟩, .string ⟨#[98]⟩, .int .i64 0, .slice none 0 0] 24)).alloc (.cells #[.int .i64 1, .string ⟨#[]⟩, .string ⟨#[97]⟩, .int .i64 0, .slice none 0 0] 24)).alloc (.cells #[.int .i64 1, .string ⟨#[]⟩, .string ⟨#[98]⟩, .int .i64 0, .slice none 0 0, .int .i64 1, .string ⟨#[]⟩, .string ⟨#[97]⟩, .int .i64 0, .slice none 0 0] 24)).alloc (.cells #[.int .i64 1, .string ⟨#[]⟩, .string ⟨#[97]⟩, .int .i64 0, .slice none 0 0, .int .i64 2, .string ⟨#[]⟩, .string ⟨#[108, 105, 115, 116]⟩, .int .i64 0, .slice (some ⟨w.heap.size + 1 + 1 + 1, 0, none⟩) 2 2] 24)).alloc (.cells #[.int .i64 3, .string ⟨#[]⟩, .string ⟨#[]⟩, .int .i64 0, .slice (some ⟨w.heap.size + 1 + 1 + 1 + 1, 0, none⟩) 2 2] 24)).alloc (.cells #[.int .i64 21, .string ⟨#[]⟩, .string ⟨#[102]⟩, .int .i64 0, .slice none 0 0, .int .i64 21, .string ⟨#[]⟩, .string ⟨#[120]⟩, .int .i64 0, .slice none 0 0] 24)).alloc (.cells #[.int .i64 27, .string ⟨#[]⟩, .string ⟨#[]⟩, .int .i64 0, .slice (some ⟨w.heap.size + 1 + 1 + 1 + 1 + 1 + 1, 0, none⟩) 2 2] 24)).alloc (.cells #[.int .i64 26, .string ⟨#[]⟩, .string ⟨#[120]⟩, .int .i64 0, .slice (some ⟨w.heap.size + 1 + 1 + 1 + 1 + 1 + 1 + 1, 0, none⟩) 1 1] 24)) := by
  have c3 := hb_alloc (hb_alloc (hb_alloc (hb_alloc (hb_alloc (hb_new (((w.alloc (.cells #[.int .i64 1, .string ⟨#[]⟩, .string ⟨#[97]⟩, .int .i64 0, .slice none 0 0] 24)).alloc (.cells #[.int .i64 1, .string ⟨#[]⟩, .string ⟨#[98]⟩, .int .i64 0, .slice none 0 0] 24)).alloc (.cells #[.int .i64 1, .string ⟨#[]⟩, .string ⟨#[97]⟩, .int .i64 0, .slice none 0 0] 24)) (.cells #[.int .i64 1, .string ⟨#[]⟩, .string ⟨#[98]⟩, .int .i64 0, .slice none 0 0, .int .i64 1, .string ⟨#[]⟩, .string ⟨#[97]⟩, .int .i64 0, .slice none 0 0] 24)) (.cells #[.int .i64 1, .string ⟨#[]⟩, .string ⟨#[97]⟩, .int .i64 0, .slice none 0 0, .int .i64 2, .string ⟨#[]⟩, .string ⟨#[108, 105, 115, 116]⟩, .int .i64 0, .slice (some ⟨w.heap.size + 1 + 1 + 1, 0, none⟩) 2 2] 24)) (.cells #[.int .i64 3, .string ⟨#[]⟩, .string ⟨#[]⟩, .int .i64 0, .slice (some ⟨w.heap.size + 1 + 1 + 1 + 1, 0, none⟩) 2 2] 24)) (.cells #[.int .i64 21, .string ⟨#[]⟩, .string ⟨#[102]⟩, .int .i64 0, .slice none 0 0, .int .i64 21, .string ⟨#[]⟩, .string ⟨#[120]⟩, .int .i64 0, .slice none 0 0] 24)) (.cells #[.int .i64 27, .string ⟨#[]⟩, .string ⟨#[]⟩, .int .i64 0, .slice (some ⟨w.heap.size + 1 + 1 + 1 + 1 + 1 + 1, 0, none⟩) 2 2] 24)) (.cells #[.int .i64 26, .string ⟨#[]⟩, .string ⟨#[120]⟩, .int .i64 0, .slice (some ⟨w.heap.size + 1 + 1 + 1 + 1 + 1 + 1 + 1, 0, none⟩) 1 1] 24)
  have c4 := hb_alloc (hb_alloc (hb_alloc (hb_alloc (hb_new ((((w.alloc (.cells #[.int .i64 1, .string ⟨#[]⟩, .string ⟨#[97]⟩, .int .i64 0, .slice none 0 0] 24)).alloc (.cells #[.int .i64 1, .string ⟨#[]⟩, .string ⟨#[98]⟩, .int .i64 0, .slice none 0 0] 24)).alloc (.cells #[.int .i64 1, .string ⟨#[]⟩, .string ⟨#[97]⟩, .int .i64 0, .slice none 0 0] 24)).alloc (.cells #[.int .i64 1, .string ⟨#[]⟩, .string ⟨#[98]⟩, .int .i64 0, .slice none 0 0, .int .i64 1, .string ⟨#[]⟩, .string ⟨#[97]⟩, .int .i64 0, .slice none 0 0] 24)) (.cells #[.int .i64 1, .string ⟨#[]⟩, .string ⟨#[97]⟩, .int .i64 0, .slice none 0 0, .int .i64 2, .string ⟨#[]⟩, .string ⟨#[108, 105, 115, 116]⟩, .int .i64 0, .slice (some ⟨w.heap.size + 1 + 1 + 1, 0, none⟩) 2 2] 24)) (.cells #[.int .i64 3, .string ⟨#[]⟩, .string ⟨#[]⟩, .int .i64 0, .slice (some ⟨w.heap.size + 1 + 1 + 1 + 1, 0, none⟩) 2 2] 24)) (.cells #[.int .i64 21, .string ⟨#[]⟩, .string ⟨#[102]⟩, .int .i64 0, .slice none 0 0, .int .i64 21, .string ⟨#[]⟩, .string ⟨#[120]⟩, .int .i64 0, .slice none 0 0] 24)) (.cells #[.int .i64 27, .string ⟨#[]⟩, .string ⟨#[]⟩, .int .i64 0, .slice (some ⟨w.heap.size + 1 + 1 + 1 + 1 + 1 + 1, 0, none⟩) 2 2] 24)) (.cells #[.int .i64 26, .string ⟨#[]⟩, .string ⟨#[120]⟩, .int .i64 0, .slice (some ⟨w.heap.size + 1 + 1 + 1 + 1 + 1 + 1 + 1, 0, none⟩) 1 1] 24)
  have c5 := hb_alloc (hb_alloc (hb_alloc (hb_new (((((w.alloc (.cells #[.int .i64 1, .string ⟨#[]⟩, .string ⟨#[97]⟩, .int .i64 0, .slice none 0 0] 24)).alloc (.cells #[.int .i64 1, .string ⟨#[]⟩, .string ⟨#[98]⟩, .int .i64 0, .slice none 0 0] 24)).alloc (.cells #[.int .i64 1, .string ⟨#[]⟩, .string ⟨#[97]⟩, .int .i64 0, .slice none 0 0] 24)).alloc (.cells #[.int .i64 1, .string ⟨#[]⟩, .string ⟨#[98]⟩, .int .i64 0, .slice none 0 0, .int .i64 1, .string ⟨#[]⟩, .string ⟨#[97]⟩, .int .i64 0, .slice none 0 0] 24)).alloc (.cells #[.int .i64 1, .string ⟨#[]⟩, .string ⟨#[97]⟩, .int .i64 0, .slice none 0 0, .int .i64 2, .string ⟨#[]⟩, .string ⟨#[108, 105, 115, 116]⟩, .int .i64 0, .slice (some ⟨w.heap.size + 1 + 1 + 1, 0, none⟩) 2 2] 24)) (.cells #[.int .i64 3, .string ⟨#[]⟩, .string ⟨#[]⟩, .int .i64 0, .slice (some ⟨w.heap.size + 1 + 1 + 1 + 1, 0, none⟩) 2 2] 24)) (.cells #[.int .i64 21, .string ⟨#[]⟩, .string ⟨#[102]⟩, .int .i64 0, .slice none 0 0, .int .i64 21, .string ⟨#[]⟩, .string ⟨#[120]⟩, .int .i64 0, .slice none 0 0] 24)) (.cells #[.int .i64 27, .string ⟨#[]⟩, .string ⟨#[]⟩, .int .i64 0, .slice (some ⟨w.heap.size + 1 + 1 + 1 + 1 + 1 + 1, 0, none⟩) 2 2] 24)) (.cells #[.int .i64 26, .string ⟨#[]⟩, .string ⟨#[120]⟩, .int .i64 0, .slice (some ⟨w.heap.size + 1 + 1 + 1 + 1 + 1 + 1 + 1, 0, none⟩) 1 1] 24)
  have c6 := hb_alloc (hb_alloc (hb_new ((((((w.alloc (.cells #[.int .i64 1, .string ⟨#[]⟩, .string ⟨#[97]⟩, .int .i64 0, .slice none 0 0] 24)).alloc (.cells #[.int .i64 1, .string ⟨#[]⟩, .string ⟨#[98]⟩, .int .i64 0, .slice none 0 0] 24)).alloc (.cells #[.int .i64 1, .string ⟨#[]⟩, .string ⟨#[97]⟩, .int .i64 0, .slice none 0 0] 24)).alloc (.cells #[.int .i64 1, .string ⟨#[]⟩, .string ⟨#[98]⟩, .int .i64 0, .slice none 0 0, .int .i64 1, .string ⟨#[]⟩, .string ⟨#[97]⟩, .int .i64 0, .slice none 0 0] 24)).alloc (.cells #[.int .i64 1, .string ⟨#[]⟩, .string ⟨#[97]⟩, .int .i64 0, .slice none 0 0, .int .i64 2, .string ⟨#[]⟩, .string ⟨#[108, 105, 115, 116]⟩, .int .i64 0, .slice (some ⟨w.heap.size + 1 + 1 + 1, 0, none⟩) 2 2] 24)).alloc (.cells #[.int .i64 3, .string ⟨#[]⟩, .string ⟨#[]⟩, .int .i64 0, .slice (some ⟨w.heap.size + 1 + 1 + 1 + 1, 0, none⟩) 2 2] 24)) (.cells #[.int .i64 21, .string ⟨#[]⟩, .string ⟨#[102]⟩, .int .i64 0, .slice none 0 0, .int .i64 21, .string ⟨#[]⟩, .string ⟨#[120]⟩, .int .i64 0, .slice none 0 0] 24)) (.cells #[.int .i64 27, .string ⟨#[]⟩, .string ⟨#[]⟩, .int .i64 0, .slice (some ⟨w.heap.size + 1 + 1 + 1 + 1 + 1 + 1, 0, none⟩) 2 2] 24)) (.cells #[.int .i64 26, .string ⟨#[]⟩, .string ⟨#[120]⟩, .int .i64 0, .slice (some ⟨w.heap.size + 1 + 1 + 1 + 1 + 1 + 1 + 1, 0, none⟩) 1 1] 24)
  have c7 := hb_alloc (hb_new (((((((w.alloc (.cells #[.int .i64 1, .string ⟨#[]⟩, .string ⟨#[97]⟩, .int .i64 0, .slice none 0 0] 24)).alloc (.cells #[.int .i64 1, .string ⟨#[]⟩, .string ⟨#[98]⟩, .int .i64 0, .slice none 0 0] 24)).alloc (.cells #[.int .i64 1, .string ⟨#[]⟩, .string ⟨#[97]⟩, .int .i64 0, .slice none 0 0] 24)).alloc (.cells #[.int .i64 1, .string ⟨#[]⟩, .string ⟨#[98]⟩, .int .i64 0, .slice none 0 0, .int .i64 1, .string ⟨#[]⟩, .string ⟨#[97]⟩, .int .i64 0, .slice none 0 0] 24)).alloc (.cells #[.int .i64 1, .string ⟨#[]⟩, .string ⟨#[97]⟩, .int .i64 0, .slice none 0 0, .int .i64 2, .string ⟨#[]⟩, .string ⟨#[108, 105, 115, 116]⟩, .int .i64 0, .slice (some ⟨w.heap.size + 1 + 1 + 1, 0, none⟩) 2 2] 24)).alloc (.cells #[.int .i64 3, .string ⟨#[]⟩, .string ⟨#[]⟩, .int .i64 0, .slice (some ⟨w.heap.size + 1 + 1 + 1 + 1, 0, none⟩) 2 2] 24)).alloc (.cells #[.int .i64 21, .string ⟨#[]⟩, .string ⟨#[102]⟩, .int .i64 0, .slice none 0 0, .int .i64 21, .string ⟨#[]⟩, .string ⟨#[120]⟩, .int .i64 0, .slice none 0 0] 24)) (.cells #[.int .i64 27, .string ⟨#[]⟩, .string ⟨#[]⟩, .int .i64 0, .slice (some ⟨w.heap.size + 1 + 1 + 1 + 1 + 1 + 1, 0, none⟩) 2 2] 24)) (.cells #[.int .i64 26, .string ⟨#[]⟩, .string ⟨#[120]⟩, .int .i64 0, .slice (some ⟨w.heap.size + 1 + 1 + 1 + 1 + 1 + 1 + 1, 0, none⟩) 1 1] 24)
  have c8 := hb_new ((((((((w.alloc (.cells #[.int .i64 1, .string ⟨#[]⟩, .string ⟨#[97]⟩, .int .i64 0, .slice none 0 0] 24)).alloc (.cells #[.int .i64 1, .string ⟨#[]⟩, .string ⟨#[98]⟩, .int .i64 0, .slice none 0 0] 24)).alloc (.cells #[.int .i64 1, .string ⟨#[]⟩, .string ⟨#[97]⟩, .int .i64 0, .slice none 0 0] 24)).alloc (.cells #[.int .i64 1, .string ⟨#[]⟩, .string ⟨#[98]⟩, .int .i64 0, .slice none 0 0, .int .i64 1, .string ⟨#[]⟩, .string ⟨#[97]⟩, .int .i64 0, .slice none 0 0] 24)).alloc (.cells #[.int .i64 1, .string ⟨#[]⟩, .string ⟨#[97]⟩, .int .i64 0, .slice none 0 0, .int .i64 2, .string ⟨#[]⟩, .string ⟨#[108, 105, 115, 116]⟩, .int .i64 0, .slice (some ⟨w.heap.size + 1 + 1 + 1, 0, none⟩) 2 2] 24)).alloc (.cells #[.int .i64 3, .string ⟨#[]⟩, .string ⟨#[]⟩, .int .i64 0, .slice (some ⟨w.heap.size + 1 + 1 + 1 + 1, 0, none⟩) 2 2] 24)).alloc (.cells #[.int .i64 21, .string ⟨#[]⟩, .string ⟨#[102]⟩, .int .i64 0, .slice none 0 0, .int .i64 21, .string ⟨#[]⟩, .string ⟨#[120]⟩, .int .i64 0, .slice none 0 0] 24)).alloc (.cells #[.int .i64 27, .string ⟨#[]⟩, .string ⟨#[]⟩, .int .i64 0, .slice (some ⟨w.heap.size + 1 + 1 + 1 + 1 + 1 + 1, 0, none⟩) 2 2] 24)) (.cells #[.int .i64 26, .string ⟨#[]⟩, .string ⟨#[120]⟩, .int .i64 0, .slice (some ⟨w.heap.size + 1 + 1 + 1 + 1 + 1 + 1 + 1, 0, none⟩) 1 1] 24)
  simp only [World.size_alloc] at c3 c4 c5 c6 c7 c8
  have hB : Below w.heap.size w (((((((((w.alloc (.cells #[.int .i64 1, .string ⟨#[]⟩, .string ⟨#[97]⟩, .int .i64 0, .slice none 0 0] 24)).alloc (.cells #[.int .i64 1, .string ⟨#[]⟩, .string ⟨#[98]⟩, .int .i64 0, .slice none 0 0] 24)).alloc (.cells #[.int .i64 1, .string ⟨#[]⟩, .string ⟨#[97]⟩, .int .i64 0, .slice none 0 0] 24)).alloc (.cells #[.int .i64 1, .string ⟨#[]⟩, .string ⟨#[98]⟩, .int .i64 0, .slice none 0 0, .int .i64 1, .string ⟨#[]⟩, .string ⟨#[97]⟩, .int .i64 0, .slice none 0 0] 24)).alloc (.cells #[.int .i64 1, .string ⟨#[]⟩, .string ⟨#[97]⟩, .int .i64 0, .slice none 0 0, .int .i64 2, .string ⟨#[]⟩, .string ⟨#[108, 105, 115, 116]⟩, .int .i64 0, .slice (some ⟨w.heap.size + 1 + 1 + 1, 0, none⟩) 2 2] 24)).alloc (.cells #[.int .i64 3, .string ⟨#[]⟩, .string ⟨#[]⟩, .int .i64 0, .slice (some ⟨w.heap.size + 1 + 1 + 1 + 1, 0, none⟩) 2 2] 24)).alloc (.cells #[.int .i64 21, .string ⟨#[]⟩, .string ⟨#[102]⟩, .int .i64 0, .slice none 0 0, .int .i64 21, .string ⟨#[]⟩, .string ⟨#[120]⟩, .int .i64 0, .slice none 0 0] 24)).alloc (.cells #[.int .i64 27, .string ⟨#[]⟩, .string ⟨#[]⟩, .int .i64 0, .slice (some ⟨w.heap.size + 1 + 1 + 1 + 1 + 1 + 1, 0, none⟩) 2 2] 24)).alloc (.cells #[.int .i64 26, .string ⟨#[]⟩, .string ⟨#[120]⟩, .int .i64 0, .slice (some ⟨w.heap.size + 1 + 1 + 1 + 1 + 1 + 1 + 1, 0, none⟩) 1 1] 24)) := (((below2 w _ _).trans ((below2 _ _ _).mono (by simp; omega))).trans ((below2 _ _ _).mono (by simp; omega))).trans (((below2 _ _ _).mono (by simp; omega)).trans ((below_alloc _ _).mono (by simp; omega)))
  have hn : ∀ (n : ByteArray), n.size ≤ 100 → n.size ≤ maxLen := fun n h => by unfold maxLen; omega
  refine ⟨c5, c8, IsT.shut (hn _ (by decide)) (hn _ (by decide)) (kids_two c4 ((leaf_is _ 0 1 _ (hn _ (by decide))).more (by omega)) (IsT.shut (hn _ (by decide)) (hn _ (by decide)) (kids_two c3 (leaf_is _ 0 1 _ (hn _ (by decide))) (leaf_is _ 0 1 _ (hn _ (by decide)))))), IsT.shut (hn _ (by decide)) (hn _ (by decide)) (kids_one c7 (IsT.shut (hn _ (by decide)) (hn _ (by decide)) (kids_two c6 (leaf_is _ 0 21 _ (hn _ (by decide))) (leaf_is _ 0 21 _ (hn _ (by decide)))))), hB⟩
set_option maxRecDepth 100000 in
set_option maxHeartbeats 4000000 in
theorem alive_ok (w : World) : Calls Tryz.prog 8 #[] w fun e w' => e = .returned (.bool true) ∧ Below w.heap.size w w' := by
  have HE := Lib.hid (exSt_made w)
  go_enter Tryz.func8, Tryz.ntmps8
  go_upto_region 3 with (go_at_call 27; ((with_reducible refine (tv_any _ _).mono ?_); rintro e w' ⟨rfl, rfl⟩))
  generalize hW : (((((((((w.alloc (.cells #[.int .i64 1, .string ⟨#[]⟩, .string ⟨#[97]⟩, .int .i64 0, .slice none 0 0] 24)).alloc (.cells #[.int .i64 1, .string ⟨#[]⟩, .string ⟨#[98]⟩, .int .i64 0, .slice none 0 0] 24)).alloc (.cells #[.int .i64 1, .string ⟨#[]⟩, .string ⟨#[97]⟩, .int .i64 0, .slice none 0 0] 24)).alloc (.cells #[.int .i64 1, .string ⟨#[]⟩, .string ⟨#[98]⟩, .int .i64 0, .slice none 0 0, .int .i64 1, .string ⟨#[]⟩, .string ⟨#[97]⟩, .int .i64 0, .slice none 0 0] 24)).alloc (.cells #[.int .i64 1, .string ⟨#[]⟩, .string ⟨#[97]⟩, .int .i64 0, .slice none 0 0, .int .i64 2, .string ⟨#[]⟩, .string ⟨#[108, 105, 115, 116]⟩, .int .i64 0, .slice (some ⟨w.heap.size + 1 + 1 + 1, 0, none⟩) 2 2] 24)).alloc (.cells #[.int .i64 3, .string ⟨#[]⟩, .string ⟨#[]⟩, .int .i64 0, .slice (some ⟨w.heap.size + 1 + 1 + 1 + 1, 0, none⟩) 2 2] 24)).alloc (.cells #[.int .i64 21, .string ⟨#[]⟩, .string ⟨#[102]⟩, .int .i64 0, .slice none 0 0, .int .i64 21, .string ⟨#[]⟩, .string ⟨#[120]⟩, .int .i64 0, .slice none 0 0] 24)).alloc (.cells #[.int .i64 27, .string ⟨#[]⟩, .string ⟨#[]⟩, .int .i64 0, .slice (some ⟨w.heap.size + 1 + 1 + 1 + 1 + 1 + 1, 0, none⟩) 2 2] 24)).alloc (.cells #[.int .i64 26, .string ⟨#[]⟩, .string ⟨#[120]⟩, .int .i64 0, .slice (some ⟨w.heap.size + 1 + 1 + 1 + 1 + 1 + 1 + 1, 0, none⟩) 1 1] 24)) = W at *
  clear hW
  have at0 : W.cell? ⟨w.heap.size + 1 + 1 + 1 + 1 + 1, 0, none⟩ = some (.int .i64 3) := hb_at HE.out.ty 0 rfl
  have at1 : W.cell? ⟨w.heap.size + 1 + 1 + 1 + 1 + 1, 1, none⟩ = some (.string ⟨#[]⟩) := hb_at HE.out.ty 1 rfl
  have at2 : W.cell? ⟨w.heap.size + 1 + 1 + 1 + 1 + 1, 2, none⟩ = some (.string ⟨#[]⟩) := hb_at HE.out.ty 2 rfl
  have at3 : W.cell? ⟨w.heap.size + 1 + 1 + 1 + 1 + 1, 3, none⟩ = some (.int .i64 0) := hb_at HE.out.ty 3 rfl
  have at4 : W.cell? ⟨w.heap.size + 1 + 1 + 1 + 1 + 1, 4, none⟩ = some (.slice (some ⟨w.heap.size + 1 + 1 + 1 + 1, 0, none⟩) 2 2) := hb_at HE.out.ty 4 rfl
  have HC9 := Lib.hid (exT_type 1 _ _ HE.out.tyT)
  go_wp2_with (first | (go_at_call 9; ((with_reducible refine HC9.out.mono ?_); rintro e w1 ⟨rfl, hb⟩; have HE1 := Lib.hid (HE.out.more hb); clear hb at0 at1 at2 at3 at4; have HC13 := Lib.hid (exE_expr 1 _ _ HE1.out.exT); have be0 : w1.cell? ⟨w.heap.size + 1 + 1 + 1 + 1 + 1 + 1 + 1 + 1, 0, none⟩ = some (.int .i64 26) := hb_at HE1.out.ex 0 rfl; have be1 : w1.cell? ⟨w.heap.size + 1 + 1 + 1 + 1 + 1 + 1 + 1 + 1, 1, none⟩ = some (.string ⟨#[]⟩) := hb_at HE1.out.ex 1 rfl; have be2 : w1.cell? ⟨w.heap.size + 1 + 1 + 1 + 1 + 1 + 1 + 1 + 1, 2, none⟩ = some (.string ⟨#[120]⟩) := hb_at HE1.out.ex 2 rfl; have be3 : w1.cell? ⟨w.heap.size + 1 + 1 + 1 + 1 + 1 + 1 + 1 + 1, 3, none⟩ = some (.int .i64 0) := hb_at HE1.out.ex 3 rfl; have be4 : w1.cell? ⟨w.heap.size + 1 + 1 + 1 + 1 + 1 + 1 + 1 + 1, 4, none⟩ = some (.slice (some ⟨w.heap.size + 1 + 1 + 1 + 1 + 1 + 1 + 1, 0, none⟩) 1 1) := hb_at HE1.out.ex 4 rfl)) | (go_at_call 13; ((with_reducible refine HC13.out.mono ?_); rintro e w2 ⟨rfl, hb⟩; have HE2 := Lib.hid (HE1.out.more hb); clear hb be0 be1 be2 be3 be4; have ce0 : w2.cell? ⟨w.heap.size + 1 + 1 + 1 + 1 + 1 + 1 + 1 + 1, 0, none⟩ = some (.int .i64 26) := hb_at HE2.out.ex 0 rfl; have ce1 : w2.cell? ⟨w.heap.size + 1 + 1 + 1 + 1 + 1 + 1 + 1 + 1, 1, none⟩ = some (.string ⟨#[]⟩) := hb_at HE2.out.ex 1 rfl; have ce2 : w2.cell? ⟨w.heap.size + 1 + 1 + 1 + 1 + 1 + 1 + 1 + 1, 2, none⟩ = some (.string ⟨#[120]⟩) := hb_at HE2.out.ex 2 rfl; have ce3 : w2.cell? ⟨w.heap.size + 1 + 1 + 1 + 1 + 1 + 1 + 1 + 1, 3, none⟩ = some (.int .i64 0) := hb_at HE2.out.ex 3 rfl; have ce4 : w2.cell? ⟨w.heap.size + 1 + 1 + 1 + 1 + 1 + 1 + 1 + 1, 4, none⟩ = some (.slice (some ⟨w.heap.size + 1 + 1 + 1 + 1 + 1 + 1 + 1, 0, none⟩) 1 1) := hb_at HE2.out.ex 4 rfl)) | (go_at_call 11; ((with_reducible refine (pat_no _ _ _ _ _ _ _).mono ?_); rintro e w3 ⟨rfl, hb⟩; have HE3 := Lib.hid (HE2.out.more hb); clear hb ce0 ce1 ce2 ce3 ce4; have HE3a := Lib.hid (HE3.out.more (below_alloc w3 (.cells #[.int .i64 3, .string ⟨#[]⟩, .string ⟨#[]⟩, .int .i64 0, .slice (some ⟨w.heap.size + 1 + 1 + 1 + 1, 0, none⟩) 2 2] 24))); have HC22 := Lib.hid (vars_any 3 [exT] (.slice (some ⟨w3.heap.size, 0, none⟩) 1 1) _ (kids_one (hb_new w3 (.cells #[.int .i64 3, .string ⟨#[]⟩, .string ⟨#[]⟩, .int .i64 0, .slice (some ⟨w.heap.size + 1 + 1 + 1 + 1, 0, none⟩) 2 2] 24)) HE3a.out.tyT) exT_room); have dt0 : w3.cell? ⟨w.heap.size + 1 + 1 + 1 + 1 + 1, 0, none⟩ = some (.int .i64 3) := hb_at HE3.out.ty 0 rfl; have dt1 : w3.cell? ⟨w.heap.size + 1 + 1 + 1 + 1 + 1, 1, none⟩ = some (.string ⟨#[]⟩) := hb_at HE3.out.ty 1 rfl; have dt2 : w3.cell? ⟨w.heap.size + 1 + 1 + 1 + 1 + 1, 2, none⟩ = some (.string ⟨#[]⟩) := hb_at HE3.out.ty 2 rfl; have dt3 : w3.cell? ⟨w.heap.size + 1 + 1 + 1 + 1 + 1, 3, none⟩ = some (.int .i64 0) := hb_at HE3.out.ty 3 rfl; have dt4 : w3.cell? ⟨w.heap.size + 1 + 1 + 1 + 1 + 1, 4, none⟩ = some (.slice (some ⟨w.heap.size + 1 + 1 + 1 + 1, 0, none⟩) 2 2) := hb_at HE3.out.ty 4 rfl)) | (go_at_call 22; ((with_reducible refine HC22.out.mono ?_); rintro e w4 ⟨v, rfl, ho, hb⟩; clear dt0 dt1 dt2 dt3 dt4; rw [exT_vars] at ho; have HE4 := Lib.hid (HE3a.out.more hb); have HC21 := Lib.hid (texts_eq v (.slice (some ⟨w4.heap.size, 0, none⟩) 2 2) [⟨#[97]⟩, ⟨#[98]⟩] (w4.alloc (.cells #[.string ⟨#[97]⟩, .string ⟨#[98]⟩] 9)) ((SRow.own rfl ho).below (below_alloc w4 _)) (srow_two (hb_new w4 (.cells #[.string ⟨#[97]⟩, .string ⟨#[98]⟩] 9))) (by decide)); clear hb ho)) | (go_at_call 21; ((with_reducible refine HC21.out.mono ?_); rintro e w5 ⟨rfl, n5, rfl⟩; have HE5 := Lib.hid (HE4.out.more (below_drewN (below_alloc w4 (.cells #[.string ⟨#[97]⟩, .string ⟨#[98]⟩] 9)) n5)); have HC28 := Lib.hid (free_ex 3 _ _ HE5.out.exT); have fe0 : ((w4.alloc (.cells #[.string ⟨#[97]⟩, .string ⟨#[98]⟩] 9)).drewN n5).cell? ⟨w.heap.size + 1 + 1 + 1 + 1 + 1 + 1 + 1 + 1, 0, none⟩ = some (.int .i64 26) := hb_at HE5.out.ex 0 rfl; have fe1 : ((w4.alloc (.cells #[.string ⟨#[97]⟩, .string ⟨#[98]⟩] 9)).drewN n5).cell? ⟨w.heap.size + 1 + 1 + 1 + 1 + 1 + 1 + 1 + 1, 1, none⟩ = some (.string ⟨#[]⟩) := hb_at HE5.out.ex 1 rfl; have fe2 : ((w4.alloc (.cells #[.string ⟨#[97]⟩, .string ⟨#[98]⟩] 9)).drewN n5).cell? ⟨w.heap.size + 1 + 1 + 1 + 1 + 1 + 1 + 1 + 1, 2, none⟩ = some (.string ⟨#[120]⟩) := hb_at HE5.out.ex 2 rfl; have fe3 : ((w4.alloc (.cells #[.string ⟨#[97]⟩, .string ⟨#[98]⟩] 9)).drewN n5).cell? ⟨w.heap.size + 1 + 1 + 1 + 1 + 1 + 1 + 1 + 1, 3, none⟩ = some (.int .i64 0) := hb_at HE5.out.ex 3 rfl; have fe4 : ((w4.alloc (.cells #[.string ⟨#[97]⟩, .string ⟨#[98]⟩] 9)).drewN n5).cell? ⟨w.heap.size + 1 + 1 + 1 + 1 + 1 + 1 + 1 + 1, 4, none⟩ = some (.slice (some ⟨w.heap.size + 1 + 1 + 1 + 1 + 1 + 1 + 1, 0, none⟩) 1 1) := hb_at HE5.out.ex 4 rfl)) | (go_at_call 28; ((with_reducible refine HC28.out.mono ?_); rintro e w6 ⟨v6, rfl, ho, hb⟩; clear fe0 fe1 fe2 fe3 fe4; have HE6 := Lib.hid (HE5.out.more hb); have HC21b := Lib.hid (texts_eq v6 (.slice (some ⟨w6.heap.size, 0, none⟩) 1 1) [⟨#[102]⟩] (w6.alloc (.cells #[.string ⟨#[102]⟩] 9)) ((SRow.own rfl ho).below (below_alloc w6 _)) (srow_one (hb_new w6 (.cells #[.string ⟨#[102]⟩] 9))) (by decide)); clear hb ho)) | (go_at_call 21; ((with_reducible refine HC21b.out.mono ?_); rintro e w7 ⟨rfl, n7, rfl⟩; have HE7 := Lib.hid (HE6.out.more (below_drewN (below_alloc w6 (.cells #[.string ⟨#[102]⟩] 9)) n7)); have HC15 := Lib.hid (size_lit _ _ _ _ HE7.out.tyT exT_size); have gt0 : ((w6.alloc (.cells #[.string ⟨#[102]⟩] 9)).drewN n7).cell? ⟨w.heap.size + 1 + 1 + 1 + 1 + 1, 0, none⟩ = some (.int .i64 3) := hb_at HE7.out.ty 0 rfl; have gt1 : ((w6.alloc (.cells #[.string ⟨#[102]⟩] 9)).drewN n7).cell? ⟨w.heap.size + 1 + 1 + 1 + 1 + 1, 1, none⟩ = some (.string ⟨#[]⟩) := hb_at HE7.out.ty 1 rfl; have gt2 : ((w6.alloc (.cells #[.string ⟨#[102]⟩] 9)).drewN n7).cell? ⟨w.heap.size + 1 + 1 + 1 + 1 + 1, 2, none⟩ = some (.string ⟨#[]⟩) := hb_at HE7.out.ty 2 rfl; have gt3 : ((w6.alloc (.cells #[.string ⟨#[102]⟩] 9)).drewN n7).cell? ⟨w.heap.size + 1 + 1 + 1 + 1 + 1, 3, none⟩ = some (.int .i64 0) := hb_at HE7.out.ty 3 rfl; have gt4 : ((w6.alloc (.cells #[.string ⟨#[102]⟩] 9)).drewN n7).cell? ⟨w.heap.size + 1 + 1 + 1 + 1 + 1, 4, none⟩ = some (.slice (some ⟨w.heap.size + 1 + 1 + 1 + 1, 0, none⟩) 2 2) := hb_at HE7.out.ty 4 rfl)) | (go_at_call 15; ((with_reducible refine HC15.out.mono ?_); rintro e w8 ⟨rfl, hb⟩; have HE8 := Lib.hid (HE7.out.more hb); clear hb)))
  go_ret
  exact ⟨rfl, HE8.out.below⟩end Go.Proofs.YthcpmdgdbceeiaaGreatDoor
