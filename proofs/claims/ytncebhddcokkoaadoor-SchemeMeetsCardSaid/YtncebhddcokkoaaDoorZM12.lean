/- Texts in a row: Ya Na Vm. -/
import Derived.Test.YtncebhddcokkoaaDoorZM8
import Derived.Deep.QuietTactic
import Derived.BigQuiet
import Derived.Deep.DeepCutAuto
import Derived.Outline
import Derived.Test.YtncebhddcokkoaaDoorZM10
import Derived.Test.YtncebhddcokkoaaDoorZM7
/- Names of variables: three of them; a function type of two. -/
namespace Go.Proofs.YtncebhddcokkoaaDoor
open Go.RowKit
set_option maxRecDepth 100000 in
theorem small1 (w : World) : Calls Tryd.prog 99 #[.int .i64 1] w fun e w' => e = .returned (.string ⟨#[49]⟩) ∧ w = w' := by
  go_enter Tryd.func99, Tryd.ntmps99
  go_wp2
  go_ret
  exact ⟨rfl, rfl⟩
theorem format1 (w : World) : Calls Tryd.prog 96 #[.int .i64 1, .int .i64 10] w fun e w' => e = .returned (.string ⟨#[49]⟩) ∧ w = w' := by
  go_enter Tryd.func96, Tryd.ntmps96
  go_wp2_with (go_at_call 99; refine (small1 _).mono ?_; rintro e w1 ⟨rfl, rfl⟩)
  go_ret
  exact ⟨rfl, rfl⟩
theorem itoa1' (w : World) : Calls Tryd.prog 89 #[.int .i64 1] w fun e w' => e = .returned (.string ⟨#[49]⟩) ∧ w = w' := by
  go_enter Tryd.func89, Tryd.ntmps89
  go_wp2_with (go_at_call 96; refine (format1 _).mono ?_; rintro e w1 ⟨rfl, rfl⟩)
  go_ret
  exact ⟨rfl, rfl⟩
theorem itoa1 (w : World) : Calls Tryd.prog 79 #[.int .i64 1] w fun e w' => e = .returned (.string ⟨#[49]⟩) ∧ w = w' := by
  go_enter Tryd.func79, Tryd.ntmps79
  go_wp2_with (go_at_call 89; refine (itoa1' _).mono ?_; rintro e w1 ⟨rfl, rfl⟩)
  go_ret
  exact ⟨rfl, rfl⟩
set_option maxRecDepth 100000 in
theorem name27 (w : World) : Calls Tryd.prog 63 #[.int .i64 27] w fun e w' => e = .returned (.string ⟨#[98, 49]⟩) ∧ w = w' := by
  go_enter Tryd.func63, Tryd.ntmps63
  go_wp2_with (go_at_call 79; refine (itoa1 _).mono ?_; rintro e w1 ⟨rfl, rfl⟩)
  go_ret
  exact ⟨rfl, rfl⟩
def funT (a b : ByteArray) : Tm := .mk 3 ⟨#[]⟩ ⟨#[]⟩ 0 [.mk 1 ⟨#[]⟩ a 0 [], .mk 1 ⟨#[]⟩ b 0 []]
theorem KidsT.two {w : World} {g d : Nat} {k : Int} {p n : ByteArray} {N : Int} {s : Value} {t : Tm} {k2 : Int} {p2 n2 : ByteArray} {N2 : Int} {s2 : Value} {t2 : Tm}
    (h : w.heap[g]? = some (.cells #[.int .i64 k, .string p, .string n, .int .i64 N, s, .int .i64 k2, .string p2, .string n2, .int .i64 N2, s2] 36 (0, 0))) (ht : IsT w d (tv k p n N s) t) (ht2 : IsT w d (tv k2 p2 n2 N2 s2) t2) : KidsT w d (.slice (some ⟨g, 0, none⟩) 2 2) [t, t2] := by
  refine ⟨_, 2, rfl, by unfold maxLen; simp, fun i x hx => ?_⟩
  match i, hx with
  | 0, hx => cases hx; exact ⟨g, 0, k, p, n, N, s, rfl, TAt.of_block h 0 rfl rfl rfl rfl rfl, ht⟩
  | 1, hx => cases hx; exact ⟨g, 0, k2, p2, n2, N2, s2, rfl, TAt.of_block h 5 rfl rfl rfl rfl rfl, ht2⟩
  | i + 2, hx => simp at hx
def FunP (a b : ByteArray) (w : World) (e : Ending) (w' : World) : Prop := ∃ q c, e = .returned (tv 3 ⟨#[]⟩ ⟨#[]⟩ 0 (.slice q 2 c)) ∧ IsT w' 2 (tv 3 ⟨#[]⟩ ⟨#[]⟩ 0 (.slice q 2 c)) (funT a b) ∧ Below w.heap.size w w'
set_option maxRecDepth 100000 in
theorem fun_any (a b : ByteArray) (ha : a.size ≤ maxLen) (hb : b.size ≤ maxLen) (w : World) : Calls Tryd.prog 62 #[.string a, .string b] w (FunP a b w) := by
  have k0 := hb_alloc (hb_new w (.cells #[.int .i64 3, .string ⟨#[]⟩, .string ⟨#[]⟩, .int .i64 0, .slice (some ⟨w.heap.size + 1, 0, none⟩) 2 2] 36)) (.cells #[.int .i64 1, .string ⟨#[]⟩, .string a, .int .i64 0, .slice none 0 0, .int .i64 1, .string ⟨#[]⟩, .string b, .int .i64 0, .slice none 0 0] 36)
  have k1 := hb_new (w.alloc (.cells #[.int .i64 3, .string ⟨#[]⟩, .string ⟨#[]⟩, .int .i64 0, .slice (some ⟨w.heap.size + 1, 0, none⟩) 2 2] 36)) (.cells #[.int .i64 1, .string ⟨#[]⟩, .string a, .int .i64 0, .slice none 0 0, .int .i64 1, .string ⟨#[]⟩, .string b, .int .i64 0, .slice none 0 0] 36)
  rw [World.size_alloc] at k1
  have K1 := Lib.hid k1
  have y0 := hb_at k0 0 rfl
  have y1 := hb_at k0 1 rfl
  have y2 := hb_at k0 2 rfl
  have y3 := hb_at k0 3 rfl
  have y4 := hb_at k0 4 rfl
  have HB := Lib.hid (below2 w (.cells #[.int .i64 3, .string ⟨#[]⟩, .string ⟨#[]⟩, .int .i64 0, .slice (some ⟨w.heap.size + 1, 0, none⟩) 2 2] 36) (.cells #[.int .i64 1, .string ⟨#[]⟩, .string a, .int .i64 0, .slice none 0 0, .int .i64 1, .string ⟨#[]⟩, .string b, .int .i64 0, .slice none 0 0] 36))
  clear k0 k1
  go_enter Tryd.func62, Tryd.ntmps62
  go_wp2
  refine bodyPost_ret (v := tv 3 ⟨#[]⟩ ⟨#[]⟩ 0 (.slice (some ⟨w.heap.size + 1, 0, none⟩) 2 2)) (by simp [results, Tryd.results62, go_sem, y0, y1, y2, y3, y4]) rfl ?_
  have hz : (⟨#[]⟩ : ByteArray).size ≤ maxLen := Nat.zero_le _
  refine ⟨_, _, rfl, IsT.shut hz hz (KidsT.two K1.out ?_ ?_), HB.out⟩
  · exact IsT.shut hz ha ⟨none, 0, rfl, Nat.zero_le _, fun i x hx => by simp at hx⟩
  · exact IsT.shut hz hb ⟨none, 0, rfl, Nat.zero_le _, fun i x hx => by simp at hx⟩
end Go.Proofs.YtncebhddcokkoaaDoor
/- Names of variables, all that are wanted. -/
namespace Go.Proofs.YtncebhddcokkoaaDoor
open Go.RowKit
/-- A number's digits. -/
def digB (x : Nat) : ByteArray := if x < 10 then ⟨#[UInt8.ofNat (48 + x)]⟩ else ⟨#[UInt8.ofNat (48 + x / 10), UInt8.ofNat (48 + x % 10)]⟩
/-- The name of the i-th variable. -/
def nmB (i : Nat) : ByteArray := if i < 26 then Utf8.encode (97 + (i : Int) % 26) else Utf8.encode (97 + (i : Int) % 26) ++ digB (i / 26)
set_option maxRecDepth 100000 in
theorem low_is : ∀ x, x < 10 → (ByteArray.mk #[48, 49, 50, 51, 52, 53, 54, 55, 56, 57, 97, 98, 99, 100, 101, 102, 103, 104, 105, 106, 107, 108, 109, 110, 111, 112, 113, 114, 115, 116, 117, 118, 119, 120, 121, 122]).extract x (x + 1) = digB x := by decide +kernel
set_option maxRecDepth 100000 in
theorem two_is : ∀ x, x < 100 → 10 ≤ x → (ByteArray.mk #[48, 48, 48, 49, 48, 50, 48, 51, 48, 52, 48, 53, 48, 54, 48, 55, 48, 56, 48, 57, 49, 48, 49, 49, 49, 50, 49, 51, 49, 52, 49, 53, 49, 54, 49, 55, 49, 56, 49, 57, 50, 48, 50, 49, 50, 50, 50, 51, 50, 52, 50, 53, 50, 54, 50, 55, 50, 56, 50, 57, 51, 48, 51, 49, 51, 50, 51, 51, 51, 52, 51, 53, 51, 54, 51, 55, 51, 56, 51, 57, 52, 48, 52, 49, 52, 50, 52, 51, 52, 52, 52, 53, 52, 54, 52, 55, 52, 56, 52, 57, 53, 48, 53, 49, 53, 50, 53, 51, 53, 52, 53, 53, 53, 54, 53, 55, 53, 56, 53, 57, 54, 48, 54, 49, 54, 50, 54, 51, 54, 52, 54, 53, 54, 54, 54, 55, 54, 56, 54, 57, 55, 48, 55, 49, 55, 50, 55, 51, 55, 52, 55, 53, 55, 54, 55, 55, 55, 56, 55, 57, 56, 48, 56, 49, 56, 50, 56, 51, 56, 52, 56, 53, 56, 54, 56, 55, 56, 56, 56, 57, 57, 48, 57, 49, 57, 50, 57, 51, 57, 52, 57, 53, 57, 54, 57, 55, 57, 56, 57, 57]).extract (x * 2) (x * 2 + 2) = digB x := by decide +kernel
set_option maxRecDepth 100000 in
theorem small_any (x : Nat) (hx : x < 100) (w : World) : Calls Tryd.prog 99 #[.int .i64 (x : Int)] w fun e w' => e = .returned (.string (digB x)) ∧ w = w' := by
  by_cases h : (x : Int) < 10
  · go_enter Tryd.func99, Tryd.ntmps99
    go_wp2
    go_ret
    exact ⟨congrArg (fun s => Ending.returned (.string s)) (low_is x (by omega)), rfl⟩
  · go_enter Tryd.func99, Tryd.ntmps99
    go_wp2
    go_ret
    exact ⟨congrArg (fun s => Ending.returned (.string s)) (two_is x hx (by omega)), rfl⟩
theorem format_any (x : Nat) (hx : x < 100) (w : World) : Calls Tryd.prog 96 #[.int .i64 (x : Int), .int .i64 10] w fun e w' => e = .returned (.string (digB x)) ∧ w = w' := by
  have h0 : (0 : Int) ≤ (x : Int) := by omega
  have h1 : (x : Int) < 100 := by omega
  go_enter Tryd.func96, Tryd.ntmps96
  go_wp2_with (go_at_call 99; refine (small_any x hx _).mono ?_; rintro e w1 ⟨rfl, rfl⟩)
  go_ret
  exact ⟨rfl, rfl⟩
theorem itoa_any' (x : Nat) (hx : x < 100) (w : World) : Calls Tryd.prog 89 #[.int .i64 (x : Int)] w fun e w' => e = .returned (.string (digB x)) ∧ w = w' := by
  go_enter Tryd.func89, Tryd.ntmps89
  go_wp2_with (go_at_call 96; refine (format_any x hx _).mono ?_; rintro e w1 ⟨rfl, rfl⟩)
  go_ret
  exact ⟨rfl, rfl⟩
theorem itoa_any (x : Nat) (hx : x < 100) (w : World) : Calls Tryd.prog 79 #[.int .i64 (x : Int)] w fun e w' => e = .returned (.string (digB x)) ∧ w = w' := by
  go_enter Tryd.func79, Tryd.ntmps79
  go_wp2_with (go_at_call 89; refine (itoa_any' x hx _).mono ?_; rintro e w1 ⟨rfl, rfl⟩)
  go_ret
  exact ⟨rfl, rfl⟩
set_option maxRecDepth 100000 in
theorem nm_size' : ∀ i, i < 2600 → (nmB i).size ≤ 3 := by decide +kernel
set_option maxRecDepth 100000 in
theorem name_any (i : Nat) (hi : i < 2600) (w : World) : Calls Tryd.prog 63 #[.int .i64 (i : Int)] w fun e w' => e = .returned (.string (nmB i)) ∧ w = w' := by
  have e : nmB i = if i < 26 then Utf8.encode (97 + (i : Int) % 26) else Utf8.encode (97 + (i : Int) % 26) ++ digB (i / 26) := rfl
  by_cases h : i < 26
  · rw [if_pos h] at e
    rw [e]
    clear e
    go_enter Tryd.func63, Tryd.ntmps63
    go_wp2
    go_ret
    exact ⟨rfl, rfl⟩
  · rw [if_neg h] at e
    have hsz : RowKit.Hid ((Utf8.encode (97 + (i : Int) % 26)).size + (digB (i / 26)).size ≤ 3) := Lib.hid (by
      have h3 := nm_size' i hi
      rw [e, ByteArray.size_append] at h3
      exact h3)
    rw [e]
    clear e
    have h2 : (26 : Int) ≤ (i : Int) := by omega
    have hq : RowKit.wrap64 ((i : Int) / 26) = ((i / 26 : Nat) : Int) := by unfold RowKit.wrap64; omega
    have HI : RowKit.Hid (Calls Tryd.prog 79 #[.int .i64 (RowKit.wrap64 ((i : Int) / 26))] w fun e w' => e = .returned (.string (digB (i / 26))) ∧ w = w') := Lib.hid (by
      rw [hq]; exact itoa_any (i / 26) (by omega) w)
    clear hq
    generalize digB (i / 26) = D at *
    clear hi
    go_enter Tryd.func63, Tryd.ntmps63
    go_upto_region 4 with fail
    go_wp2_with (go_at_call 79; refine HI.out.mono ?_; rintro e w1 ⟨rfl, rfl⟩)
    all_goals first | (go_ret; exact ⟨rfl, rfl⟩) | (rename_i hx; exfalso; have h9 := hsz.out; omega)
theorem nm_size {i : Nat} (hi : i < 2600) : (nmB i).size ≤ maxLen := Nat.le_trans (nm_size' i hi) (by decide)
end Go.Proofs.YtncebhddcokkoaaDoor
/- How large a type is into which others are put, and which variables it has (mathematics). -/
namespace Go.Proofs.YtncebhddcokkoaaDoor
open Go.RowKit
theorem sub_sm {σ : ByteArray → Option Tm} (hσ : ∀ n y, σ n = some y → ∀ d', Sm d' y) : ∀ {d : Nat} {t : Tm}, Dp d t → Sm d t → ∀ d', Sm d' (sub σ d t) := by
  intro d
  induction d with
  | zero => intro t h; cases h
  | succ d ih =>
    intro t hd hs d'
    obtain ⟨k, p, n, N, kids⟩ := t
    cases e : (if k = 1 then σ n else none) with
    | some y =>
      by_cases hk : k = 1
      · subst hk
        rw [if_pos rfl] at e
        rw [sub_yes e]
        exact hσ n y e d'
      · rw [if_neg hk] at e; cases e
    | none =>
      rw [sub_no e]
      cases d' with
      | zero => trivial
      | succ d' =>
        refine ⟨by rw [List.length_map]; exact hs.1, fun x hx => ?_⟩
        obtain ⟨z, hz, rfl⟩ := List.mem_map.1 hx
        exact ih (hd z hz) (hs.2 z hz) d'
theorem sub_none {σ : ByteArray → Option Tm} (h : ∀ n, σ n = none) : ∀ (d : Nat) (t : Tm), sub σ d t = t := by
  intro d
  induction d with
  | zero => intro t; rfl
  | succ d ih =>
    intro t
    obtain ⟨k, p, n, N, kids⟩ := t
    rw [sub_no (by split <;> simp [h])]
    congr 1
    exact (List.map_congr_left fun x _ => ih x).trans (List.map_id kids)
theorem tszN_pos {d : Nat} {t : Tm} (h : Dp d t) : 1 ≤ tszN d t := by
  cases d with
  | zero => cases h
  | succ d =>
    obtain ⟨k, p, n, N, kids⟩ := t
    show 1 ≤ kids.foldl (fun n t => n + tszN d t) 1
    rw [foldl_add]; omega
theorem fold_le {f g : Tm → Nat} {l : List Tm} (h : ∀ x ∈ l, f x ≤ g x) : l.foldl (fun n t => n + f t) 0 ≤ l.foldl (fun n t => n + g t) 0 := by
  induction l with
  | nil => exact Nat.le_refl _
  | cons x l ih =>
    rw [List.foldl_cons, List.foldl_cons, foldl_add f, foldl_add g]
    have := h x (by simp)
    have := ih fun y hy => h y (by simp [hy])
    omega
theorem fold_mul {f : Tm → Nat} (K : Nat) (l : List Tm) : l.foldl (fun n t => n + K * f t) 0 = K * l.foldl (fun n t => n + f t) 0 := by
  induction l with
  | nil => rfl
  | cons x l ih =>
    rw [List.foldl_cons, List.foldl_cons, foldl_add (fun t => K * f t), foldl_add f, ih, Nat.mul_add, Nat.zero_add, Nat.zero_add]
theorem fold_map {f : Tm → Nat} (F : Tm → Tm) (l : List Tm) : (l.map F).foldl (fun n t => n + f t) 0 = l.foldl (fun n t => n + f (F t)) 0 := by
  rw [List.foldl_map]
theorem tszN_le : ∀ {d : Nat} {t : Tm}, Dp d t → ∀ D, tszN D t ≤ tszN d t := by
  intro d
  induction d with
  | zero => intro t h; cases h
  | succ d ih =>
    intro t h D
    cases D with
    | zero => exact Nat.zero_le _
    | succ D =>
      obtain ⟨k, p, n, N, kids⟩ := t
      show kids.foldl (fun n t => n + tszN D t) 1 ≤ kids.foldl (fun n t => n + tszN d t) 1
      rw [foldl_add, foldl_add (tszN d)]
      have := fold_le (f := tszN D) (g := tszN d) (l := kids) fun x hx => ih (h x hx) D
      omega
theorem tszN_sub {σ : ByteArray → Option Tm} {K : Nat} (hK : 1 ≤ K) (hσ : ∀ n y, σ n = some y → ∀ D, tszN D y ≤ K) : ∀ {d : Nat} {t : Tm}, Dp d t → ∀ D, tszN D (sub σ d t) ≤ K * tszN d t := by
  intro d
  induction d with
  | zero => intro t h; cases h
  | succ d ih =>
    intro t h D
    have hp := tszN_pos h
    obtain ⟨k, p, n, N, kids⟩ := t
    cases e : (if k = 1 then σ n else none) with
    | some y =>
      by_cases hk : k = 1
      · subst hk
        rw [if_pos rfl] at e
        rw [sub_yes e]
        exact Nat.le_trans (hσ n y e D) (Nat.le_mul_of_pos_right K hp)
      · rw [if_neg hk] at e; cases e
    | none =>
      rw [sub_no e]
      cases D with
      | zero => exact Nat.zero_le _
      | succ D =>
        show (kids.map (sub σ d)).foldl (fun n t => n + tszN D t) 1 ≤ K * kids.foldl (fun n t => n + tszN d t) 1
        rw [foldl_add, foldl_add (tszN d), fold_map, Nat.mul_add]
        have h1 := fold_le (f := fun t => tszN D (sub σ d t)) (g := fun t => K * tszN d t) (l := kids) fun x hx => ih (h x hx) D
        rw [fold_mul] at h1
        omega
/-- A term has a variable. -/
def hasV : Nat → Tm → ByteArray → Prop
  | 0, _, _ => False
  | d + 1, .mk k _ n _ kids, v => (k = 1 ∧ n = v) ∨ ∃ x ∈ kids, hasV d x v
theorem inN_put {v n : ByteArray} {ns : List ByteArray} {k : Int} : inN v (put1 ns k n) = true ↔ inN v ns = true ∨ (k = 1 ∧ n = v) := by
  unfold put1
  by_cases h : k = 1 ∧ inN n ns = false
  · rw [if_pos h, inN_snoc]
    simp only [Bool.or_eq_true, decide_eq_true_eq]
    constructor
    · rintro (rfl | e)
      · exact .inr ⟨h.1, rfl⟩
      · exact .inl e
    · rintro (e | ⟨_, rfl⟩)
      · exact .inr e
      · exact .inl rfl
  · rw [if_neg h]
    constructor
    · exact .inl
    · rintro (e | ⟨rfl, rfl⟩)
      · exact e
      · cases hn : inN n ns with
        | true => rfl
        | false => exact absurd ⟨rfl, hn⟩ h
theorem inN_foldV {d : Nat} {v : ByteArray} (h : ∀ (ns : List ByteArray) (t : Tm), inN v (varsT d ns t) = true ↔ inN v ns = true ∨ hasV d t v) : ∀ (l : List Tm) (ns : List ByteArray), inN v (l.foldl (varsT d) ns) = true ↔ inN v ns = true ∨ ∃ x ∈ l, hasV d x v := by
  intro l
  induction l with
  | nil => intro ns; simp
  | cons x l ih =>
    intro ns
    rw [List.foldl_cons, ih, h]
    simp only [List.mem_cons, exists_eq_or_imp, or_assoc]
theorem inN_varsT {v : ByteArray} : ∀ (d : Nat) (ns : List ByteArray) (t : Tm), inN v (varsT d ns t) = true ↔ inN v ns = true ∨ hasV d t v := by
  intro d
  induction d with
  | zero => intro ns t; exact ⟨.inl, fun h => h.elim id fun h => h.elim⟩
  | succ d ih =>
    intro ns t
    obtain ⟨k, p, n, N, kids⟩ := t
    show inN v (kids.foldl (varsT d) (put1 ns k n)) = true ↔ _
    rw [inN_foldV ih, inN_put, or_assoc]
    rfl
theorem hasV_le {v : ByteArray} : ∀ {d : Nat} {t : Tm}, Dp d t → ∀ D, hasV D t v → hasV d t v := by
  intro d
  induction d with
  | zero => intro t h; cases h
  | succ d ih =>
    intro t h D hv
    cases D with
    | zero => cases hv
    | succ D =>
      obtain ⟨k, p, n, N, kids⟩ := t
      rcases hv with hv | ⟨x, hx, hv⟩
      · exact .inl hv
      · exact .inr ⟨x, hx, ih (h x hx) D hv⟩
theorem hasV_sub {σ : ByteArray → Option Tm} {v : ByteArray} : ∀ {d : Nat} {t : Tm}, Dp d t → ∀ D, hasV D (sub σ d t) v → hasV d t v ∨ ∃ n y E, σ n = some y ∧ hasV E y v := by
  intro d
  induction d with
  | zero => intro t h; cases h
  | succ d ih =>
    intro t h D hv
    obtain ⟨k, p, n, N, kids⟩ := t
    cases e : (if k = 1 then σ n else none) with
    | some y =>
      by_cases hk : k = 1
      · subst hk
        rw [if_pos rfl] at e
        rw [sub_yes e] at hv
        exact .inr ⟨n, y, D, e, hv⟩
      · rw [if_neg hk] at e; cases e
    | none =>
      rw [sub_no e] at hv
      cases D with
      | zero => cases hv
      | succ D =>
        rcases hv with hv | ⟨x, hx, hv⟩
        · exact .inl (.inl hv)
        · obtain ⟨z, hz, rfl⟩ := List.mem_map.1 hx
          rcases ih (h z hz) D hv with h1 | h1
          · exact .inl (.inr ⟨z, hz, h1⟩)
          · exact .inr h1
theorem inN_mem {v : ByteArray} {ns : List ByteArray} (h : v ∈ ns) : inN v ns = true := by
  unfold inN
  exact List.any_eq_true.2 ⟨v, h, by simp⟩
theorem byOf_mem {g : ByteArray → Option Int} {bys : List Tm} {n : ByteArray} {y : Tm} (h : byOf g bys n = some y) : y ∈ bys := by
  unfold byOf at h
  cases e : g n with
  | none => rw [e] at h; cases h
  | some i => rw [e] at h; exact List.mem_of_getElem? h
/-- What is put there is all that is new. -/
theorem vars_new {e d D : Nat} {g : ByteArray → Option Int} {bys : List Tm} {t : Tm} (ht : Dp d t) (hb : ∀ y ∈ bys, Dp e y) {v : ByteArray} (hv : v ∈ varsT D [] (sub (byOf g bys) d t)) : inN v (varsT d [] t) = true ∨ inN v (bys.foldl (varsT e) []) = true := by
  rcases (inN_varsT D [] _).1 (inN_mem hv) with h | h
  · cases h
  · rcases hasV_sub ht D h with h | ⟨n, y, E, h1, h2⟩
    · exact .inl ((inN_varsT d [] t).2 (.inr h))
    · have hy := byOf_mem h1
      exact .inr ((inN_foldV (fun ns t => inN_varsT e ns t) bys []).2 (.inr ⟨y, hy, hasV_le (hb y hy) E h2⟩))
end Go.Proofs.YtncebhddcokkoaaDoor
