/- Writer's U, I, T with any few numbers or texts. -/
import Derived.Test.YtfbfdkjimoomlaaD3
namespace Go.Proofs.Ytfbfdkjimoomlaa
open Go.RowKit
/-- The bytes of things, one behind the other. -/
def many {α : Type} (f : α → List UInt8) : List α → List UInt8
  | [] => []
  | x :: r => f x ++ many f r
theorem many_append {α : Type} (f : α → List UInt8) (l m : List α) : many f (l ++ m) = many f l ++ many f m := by
  induction l with
  | nil => rfl
  | cons x r ih => show f x ++ many f (r ++ m) = _; rw [ih, ← List.append_assoc]; rfl
theorem many_snoc {α : Type} (f : α → List UInt8) (l : List α) (k : Nat) (h : k < l.length) : many f (l.take (k + 1)) = many f (l.take k) ++ f l[k] := by
  rw [List.take_succ_eq_append_getElem h, many_append]
  simp [many]
theorem many_len {α : Type} (f : α → List UInt8) (N : Nat) (l : List α) (h : ∀ x ∈ l, (f x).length ≤ N) : (many f l).length ≤ N * l.length := by
  induction l with
  | nil => simp [many]
  | cons x r ih =>
    have h1 := h x (by simp)
    have h2 := ih (fun y hy => h y (by simp [hy]))
    show (f x ++ many f r).length ≤ _
    rw [List.length_append, List.length_cons, Nat.mul_add]
    omega
set_option maxHeartbeats 1000000 in
theorem wU_list (B : Nat) (ps : List (List UInt8)) (S c : Nat) (l : List Nat) (w : World) (hW : Wr w B ps) (hp : (text ps).length ≤ 1000000) (hl : l.length ≤ 100) (hx : ∀ x ∈ l, x < 18446744073709551616) (hS : ∀ i (h : i < l.length), w.cell? ⟨S, i, none⟩ = some (.int .u64 (l[i] : Nat))) :
    Calls Try.prog 22 #[.pointer (some ⟨B, 0, none⟩), .slice (some ⟨S, 0, none⟩) l.length c] w fun e w' => e = .returned (.tuple #[]) ∧ Wr w' B (many Cx.uv l :: ps) ∧ w.grownBy w' (some B) := by
  have HS := Lib.hid hS
  have HX := Lib.hid hx
  clear hS hx
  go_enter Try.func22, Try.ntmps22
  go_wp2
  go_loopw [4, 9] (fun b i wr => ∃ k : Nat, k ≤ l.length ∧ i = .int .i64 k ∧ wr.ownsRow w.heap.size 5 1 b (many Cx.uv (l.take k)).length (bytesV (many Cx.uv (l.take k))) ∧ Below w.heap.size w wr) (fun _ i _ => l.length - (intOf i).toNat)
  case atStart => exact ⟨0, Nat.zero_le _, rfl, World.ownsRow_nil _ _ _ _, Below.refl _ _⟩
  case round =>
    obtain ⟨k, hk, rfl, hown, hbel⟩ := hrel
    have hl10 : (many Cx.uv (l.take k)).length ≤ 10 * 100 := by
      have h1 := many_len Cx.uv 10 (l.take k) (fun x hx => uv_small x (HX.out x (List.mem_of_mem_take hx)))
      rw [List.length_take] at h1
      omega
    by_cases hlt : k < l.length
    · have c0 : wr.cell? ⟨S, k, none⟩ = some (.int .u64 (l[k] : Nat)) := by
        have h1 := HS.out k hlt
        rw [hbel.cell (p := ⟨S, k, none⟩) (block_lt_of_cell h1), h1]
      have hxk := HX.out l[k] (List.getElem_mem hlt)
      have HN := Lib.hid (many_snoc Cx.uv l k hlt)
      generalize l[k] = x at *
      go_wp2_with (go_at_call 50; refine (add_any _ _ x _ _ _ hxk hown (by omega) hbel.size).mono ?_; rintro e w1 ⟨v1, rfl, hown1, hbel1⟩)
      go_roundw
      case rel =>
        refine ⟨k + 1, by omega, by go_num, ?_, hbel.trans hbel1⟩
        rw [HN.out, List.length_append, bytesV_append]
        exact hown1
      case measure => simp [intOf]; omega
    · obtain rfl : k = l.length := by omega
      rw [List.take_length] at hown hl10
      go_wp2_with (go_at_call 51; ((with_reducible refine (add_piece B ps _ _ _ (hW.below hbel) (own_base hown (by have := hW.lt; omega)) (by omega) hp).mono ?_); rintro e w9 ⟨rfl, hW9, hg9⟩))
      go_end0
      exact ⟨rfl, hW9, (below_grown hbel _).trans hg9⟩

set_option maxHeartbeats 1000000 in
theorem wI_list (B : Nat) (ps : List (List UInt8)) (S c : Nat) (l : List Int) (w : World) (hW : Wr w B ps) (hp : (text ps).length ≤ 1000000) (hl : l.length ≤ 100) (hx : ∀ x ∈ l, -9223372036854775808 ≤ x ∧ x ≤ 9223372036854775807) (hS : ∀ i (h : i < l.length), w.cell? ⟨S, i, none⟩ = some (.int .i64 l[i])) :
    Calls Try.prog 44 #[.pointer (some ⟨B, 0, none⟩), .slice (some ⟨S, 0, none⟩) l.length c] w fun e w' => e = .returned (.tuple #[]) ∧ Wr w' B (many (fun x => Cx.uv (Cx.zig x)) l :: ps) ∧ w.grownBy w' (some B) := by
  have HS := Lib.hid hS
  have HX := Lib.hid hx
  clear hS hx
  go_enter Try.func44, Try.ntmps44
  go_wp2
  go_loopw [4, 9] (fun b i wr => ∃ k : Nat, k ≤ l.length ∧ i = .int .i64 k ∧ wr.ownsRow w.heap.size 5 1 b (many (fun x => Cx.uv (Cx.zig x)) (l.take k)).length (bytesV (many (fun x => Cx.uv (Cx.zig x)) (l.take k))) ∧ Below w.heap.size w wr) (fun _ i _ => l.length - (intOf i).toNat)
  case atStart => exact ⟨0, Nat.zero_le _, rfl, World.ownsRow_nil _ _ _ _, Below.refl _ _⟩
  case round =>
    obtain ⟨k, hk, rfl, hown, hbel⟩ := hrel
    have hl10 : (many (fun x => Cx.uv (Cx.zig x)) (l.take k)).length ≤ 10 * 100 := by
      have h1 := many_len (fun x => Cx.uv (Cx.zig x)) 10 (l.take k) (fun x hx => uv_small _ (Cx.zig_lt x (HX.out x (List.mem_of_mem_take hx)).1 (HX.out x (List.mem_of_mem_take hx)).2))
      rw [List.length_take] at h1
      omega
    by_cases hlt : k < l.length
    · have c0 : wr.cell? ⟨S, k, none⟩ = some (.int .i64 l[k]) := by
        have h1 := HS.out k hlt
        rw [hbel.cell (p := ⟨S, k, none⟩) (block_lt_of_cell h1), h1]
      obtain ⟨h1, h2⟩ := HX.out l[k] (List.getElem_mem hlt)
      have HN := Lib.hid (many_snoc (fun x => Cx.uv (Cx.zig x)) l k hlt)
      generalize l[k] = x at *
      have hzl := Cx.zig_lt x h1 h2
      go_wp2_with (first
        | (go_at_call 50; refine (add_any _ _ (Cx.zig x) _ _ _ hzl hown (by omega) hbel.size).mono ?_; rintro e w1 ⟨v1, rfl, hown1, hbel1⟩)
        | (go_at_call 62; ((with_reducible refine (zig_any x (by omega) (by omega) _).mono ?_); rintro e w2 ⟨rfl, rfl⟩)))
      go_roundw
      case rel =>
        refine ⟨k + 1, by omega, by go_num, ?_, hbel.trans hbel1⟩
        rw [HN.out, List.length_append, bytesV_append]
        exact hown1
      case measure => simp [intOf]; omega
    · obtain rfl : k = l.length := by omega
      rw [List.take_length] at hown hl10
      go_wp2_with (go_at_call 51; ((with_reducible refine (add_piece B ps _ _ _ (hW.below hbel) (own_base hown (by have := hW.lt; omega)) (by omega) hp).mono ?_); rintro e w9 ⟨rfl, hW9, hg9⟩))
      go_end0
      exact ⟨rfl, hW9, (below_grown hbel _).trans hg9⟩
theorem many_take_le {α : Type} (f : α → List UInt8) (l : List α) (k : Nat) : (many f (l.take k)).length ≤ (many f l).length := by
  have h : many f l = many f (l.take k) ++ many f (l.drop k) := by rw [← many_append, List.take_append_drop]
  rw [h, List.length_append]
  omega
set_option maxHeartbeats 1000000 in
theorem wT_list (B : Nat) (ps : List (List UInt8)) (S c : Nat) (l : List ByteArray) (w : World) (hW : Wr w B ps) (hp : (text ps).length ≤ 1000000) (hl : l.length ≤ 100) (hx : (many txt l).length ≤ 1000000) (hS : ∀ i (h : i < l.length), w.cell? ⟨S, i, none⟩ = some (.string l[i])) :
    Calls Try.prog 25 #[.pointer (some ⟨B, 0, none⟩), .slice (some ⟨S, 0, none⟩) l.length c] w fun e w' => e = .returned (.tuple #[]) ∧ Wr w' B (many txt l :: ps) ∧ w.grownBy w' (some B) := by
  have HS := Lib.hid hS
  clear hS
  obtain ⟨i0, hi, hz0, hz1, hz2⟩ := info_parts info5
  go_enter Try.func25, Try.ntmps25
  go_wp2
  go_loopw [4, 9] (fun b i wr => ∃ k : Nat, k ≤ l.length ∧ i = .int .i64 k ∧ wr.ownsRow w.heap.size 5 1 b (many txt (l.take k)).length (bytesV (many txt (l.take k))) ∧ Below w.heap.size w wr) (fun _ i _ => l.length - (intOf i).toNat)
  case atStart => exact ⟨0, Nat.zero_le _, rfl, World.ownsRow_nil _ _ _ _, Below.refl _ _⟩
  case round =>
    obtain ⟨k, hk, rfl, hown, hbel⟩ := hrel
    have hl10 : (many txt (l.take k)).length ≤ 1000000 := Nat.le_trans (many_take_le txt l k) hx
    by_cases hlt : k < l.length
    · have c0 : wr.cell? ⟨S, k, none⟩ = some (.string l[k]) := by
        have h1 := HS.out k hlt
        rw [hbel.cell (p := ⟨S, k, none⟩) (block_lt_of_cell h1), h1]
      have HN := Lib.hid (many_snoc txt l k hlt)
      have hn2 : (many txt (l.take (k + 1))).length ≤ 1000000 := Nat.le_trans (many_take_le txt l (k + 1)) hx
      rw [HN.out, List.length_append, txt_len] at hn2
      generalize l[k] = x at *
      have hxs : x.size < 18446744073709551616 := by omega
      go_wp2_with (first
        | (go_at_call 50; refine (add_any _ _ x.size _ _ _ hxs hown (by omega) hbel.size).mono ?_; rintro e w1 ⟨v1, rfl, hown1, hbel1⟩)
        | (refine wpList_append_str rfl (.tmp 18) (.tmp 19) rfl w.heap.size i0 hi hz0 hz1 hz2 _ _ _ rfl hown1 x rfl (by omega) (hbel.trans hbel1).size ?_; intro v2 w2 hown2 hg2))
      go_roundw
      case rel =>
        refine ⟨k + 1, by omega, by go_num, ?_, (hbel.trans hbel1).grown hg2 (hbel.trans hbel1).size (fun j hj => own_block hown1 j hj)⟩
        rw [HN.out, List.length_append, bytesV_append, txt_len]
        rw [List.append_assoc, ← bytesV_append, Nat.add_assoc] at hown2
        have e : txt x = Cx.uv x.size ++ x.data.toList := rfl
        rw [e]
        exact hown2
      case measure => simp [intOf]; omega
    · obtain rfl : k = l.length := by omega
      rw [List.take_length] at hown hl10
      go_wp2_with (go_at_call 51; ((with_reducible refine (add_piece B ps _ _ _ (hW.below hbel) (own_base hown (by have := hW.lt; omega)) (by omega) hp).mono ?_); rintro e w9 ⟨rfl, hW9, hg9⟩))
      go_end0
      exact ⟨rfl, hW9, (below_grown hbel _).trans hg9⟩
end Go.Proofs.Ytfbfdkjimoomlaa
