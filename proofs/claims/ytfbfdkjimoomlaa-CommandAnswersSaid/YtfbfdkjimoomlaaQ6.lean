/- A writer's text; the cells of a command; a reader's and a writer's blocks behind calls. -/
import Derived.Test.YtfbfdkjimoomlaaQ5
import Derived.Test.YtfbfdkjimoomlaaQ3
import Derived.Test.YtfbfdkjimoomlaaQ4
import Derived.Test.YtfbfdkjimoomlaaD4
namespace Go.Proofs.Ytfbfdkjimoomlaa
open Go.RowKit
theorem wString_any (B : Nat) (ps : List (List UInt8)) (w : World) (hW : Wr w B ps) (hne : ∀ d ∈ ps, d ≠ []) (hN : (text ps).length ≤ 1000000) :
    Calls Try.prog 26 #[.pointer (some ⟨B, 0, none⟩)] w fun e w' => e = .returned (.string (str (text ps))) ∧ Below w.heap.size w w' := by
  cases ps with
  | nil => exact (wString_empty B w hW).mono fun e w' ⟨h1, h2⟩ => ⟨h1, by subst h2; exact Below.refl _ _⟩
  | cons c r => exact wString_some B c r w hW hne hN
theorem refText_any (s : ByteArray) (hs : s.size ≤ 1000000) (w : World) : Calls Try.prog 31 #[.string s] w fun e w' => e = .returned (.string (str (txt s))) ∧ Below w.heap.size w w' := by
  have hu := uv_small s.size (by omega)
  have hus : (str (Cx.uv s.size)).size ≤ 10 := by rw [str_size]; exact hu
  have HT : RowKit.Hid (str (Cx.uv s.size) ++ s = str (txt s)) := by rw [txt, ← str_append, str_of]; exact Lib.hid rfl
  go_enter Try.func31, Try.ntmps31
  go_wp2_with (go_at_call 52; refine (refUvarint_any s.size (by omega) _).mono ?_; rintro e w1 ⟨rfl, hb1⟩)
  go_ret
  refine ⟨?_, hb1⟩
  show Ending.returned (.string (str (Cx.uv s.size) ++ s)) = _
  rw [HT.out]
abbrev cmdCells (c : Cm.Cmd) : Array Value := #[.int .i64 c.k, .string c.a.p, .int .i64 c.a.v.a, .int .i64 c.a.v.b, .int .i64 c.a.v.c, .string c.b.p, .int .i64 c.b.v.a, .int .i64 c.b.v.b, .int .i64 c.b.v.c, .string c.s]
theorem cmd_cells {W : World} {b : Nat} {c : Cm.Cmd} (h : W.heap[b]? = some (.cells (cmdCells c) 27 (0, 0))) :
    W.cell? ⟨b, 0, none⟩ = some (.int .i64 c.k) ∧ W.cell? ⟨b, 1, none⟩ = some (.string c.a.p) ∧ W.cell? ⟨b, 2, none⟩ = some (.int .i64 c.a.v.a) ∧ W.cell? ⟨b, 3, none⟩ = some (.int .i64 c.a.v.b) ∧ W.cell? ⟨b, 4, none⟩ = some (.int .i64 c.a.v.c) ∧
    W.cell? ⟨b, 5, none⟩ = some (.string c.b.p) ∧ W.cell? ⟨b, 6, none⟩ = some (.int .i64 c.b.v.a) ∧ W.cell? ⟨b, 7, none⟩ = some (.int .i64 c.b.v.b) ∧ W.cell? ⟨b, 8, none⟩ = some (.int .i64 c.b.v.c) ∧ W.cell? ⟨b, 9, none⟩ = some (.string c.s) :=
  ⟨hb_at h 0 rfl, hb_at h 1 rfl, hb_at h 2 rfl, hb_at h 3 rfl, hb_at h 4 rfl, hb_at h 5 rfl, hb_at h 6 rfl, hb_at h 7 rfl, hb_at h 8 rfl, hb_at h 9 rfl⟩
theorem has_cells {W : World} {b : Nat} {x y z : Bool} (h : W.heap[b]? = some (.cells #[.bool x, .bool y, .bool z] 66 (0, 0))) :
    W.cell? ⟨b, 0, none⟩ = some (.bool x) ∧ W.cell? ⟨b, 1, none⟩ = some (.bool y) ∧ W.cell? ⟨b, 2, none⟩ = some (.bool z) :=
  ⟨hb_at h 0 rfl, hb_at h 1 rfl, hb_at h 2 rfl⟩
theorem text_cons (c : List UInt8) (r : List (List UInt8)) : (text (c :: r)).length = (text r).length + c.length := by rw [text, List.length_append]
theorem lenU1 (k : Nat) (h : k < 18446744073709551616) : (many Cx.uv [k]).length ≤ 10 := by rw [many_one]; exact uv_small k h
theorem lenU3 (a b c : Nat) (ha : a < 18446744073709551616) (hb : b < 18446744073709551616) (hc : c < 18446744073709551616) : (many Cx.uv [a, b, c]).length ≤ 30 :=
  many_len Cx.uv 10 [a, b, c] (fun x hx => uv_small x (by simp at hx; omega))
theorem lenT1 (s : ByteArray) (h : s.size < 18446744073709551616) : (many txt [s]).length ≤ 10 + s.size := by rw [many_one, txt_len]; have := uv_small s.size h; omega
theorem uv_ne (k : Nat) (l : List UInt8) : Cx.uv k ++ l ≠ [] := by
  intro h
  have h1 := congrArg List.length h
  have h2 := Cx.uv_len k
  simp at h1
  rw [h1.1] at h2
  simp at h2
theorem manyU_ne (k : Nat) (l : List Nat) : many Cx.uv (k :: l) ≠ [] := uv_ne k _
theorem manyT_ne (s : ByteArray) (l : List ByteArray) : many txt (s :: l) ≠ [] := by
  show (Cx.uv s.size ++ s.data.toList) ++ _ ≠ []
  rw [List.append_assoc]
  exact uv_ne _ _
theorem three_num (a b c : Nat) : many Cx.uv [a, b, c] = Cm.num a ++ (Cm.num b ++ Cm.num c) := by
  unfold Cm.num
  simp only [Int.toNat_natCast]
  show Cx.uv a ++ (Cx.uv b ++ (Cx.uv c ++ [])) = _
  rw [List.append_nil]
namespace Cm
noncomputable def encS (c : Cmd) : ByteArray × Int := if rightB c = true then (str (encB c), 0) else (⟨#[]⟩, 2)
theorem encS_yes {c : Cmd} (h : rightB c = true) : encS c = (str (encB c), 0) := by unfold encS; rw [if_pos h]
theorem encS_no {c : Cmd} (h : rightB c = false) : encS c = (⟨#[]⟩, 2) := by unfold encS; rw [if_neg (by rw [h]; decide)]
end Cm
end Go.Proofs.Ytfbfdkjimoomlaa
