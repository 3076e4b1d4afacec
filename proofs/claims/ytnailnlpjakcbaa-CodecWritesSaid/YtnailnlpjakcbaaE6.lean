/- Items: how many, what bytes they make, whether the statement goes through them. -/
import Derived.Test.YtnailnlpjakcbaaC6
import Derived.Test.YtnailnlpjakcbaaD4
import Derived.Test.YtnailnlpjakcbaaE3
import Derived.Test.YtnailnlpjakcbaaE5
import Derived.Test.YtnailnlpjakcbaaE4
import Derived.Deep.RegionHeld3
namespace Go.Proofs.Ytnailnlpjakcbaa
open Go.ChangeShapes Go.WideShapes Go.ChangeAt Go.RowKit
open Go.ChangeMaps (open_string shut_string)
set_option linter.unusedVariables false

def isum (l : List It) : Nat := (l.map fun x => min x.s.size 100000).sum
def itemsB (l : List It) : Bool := decide (l.length ≤ 60) && decide (isum l ≤ 3000)
theorem isum_snoc (l : List It) (k : Nat) (h : k < l.length) : isum (l.take (k + 1)) = isum (l.take k) + min l[k].s.size 100000 := by
  unfold isum
  rw [List.take_succ_eq_append_getElem h, List.map_append, List.sum_append]
  simp
theorem isum_le (l : List It) : isum l ≤ 100000 * l.length := by
  induction l with
  | nil => simp [isum]
  | cons s r ih =>
    simp only [isum, List.map_cons, List.sum_cons, List.length_cons] at ih ⊢
    omega
def ssum (l : List It) : Nat := (l.map fun x => x.s.size).sum
theorem ssum_of (l : List It) (h : isum l ≤ 3000) : ssum l ≤ 3000 ∧ ∀ x ∈ l, x.s.size ≤ 3000 := by
  have key : ssum l ≤ isum l ∧ ∀ x ∈ l, x.s.size ≤ isum l := by
    induction l with
    | nil => simp [ssum, isum]
    | cons s r ih =>
      simp only [isum, ssum, List.map_cons, List.sum_cons] at ih h ⊢
      have ih2 := ih (by omega)
      constructor
      · omega
      · intro t ht
        rcases List.mem_cons.mp ht with rfl | ht
        · omega
        · have := ih2.2 t ht
          omega
  exact ⟨by omega, fun x hx => Nat.le_trans (key.2 x hx) h⟩
theorem ssum_append (l m : List It) : ssum (l ++ m) = ssum l + ssum m := by simp [ssum]

theorem uv_no (x : Nat) : Cx.uv x ≠ [] := by
  intro h
  have := congrArg List.length h
  rw [Cx.uv_len] at this
  simp at this
/-- An item's bytes. -/
def ib (x : It) : List UInt8 := if x.kind = 0 then Cx.uv x.u else if x.kind = 1 then Cx.uv (Cx.zig x.n) else txt x.s
def pcs (l : List It) : List (List UInt8) := (l.map ib).reverse
theorem pcs_snoc (l : List It) (k : Nat) (h : k < l.length) : pcs (l.take (k + 1)) = ib l[k] :: pcs (l.take k) := by
  unfold pcs
  rw [List.take_succ_eq_append_getElem h, List.map_append, List.reverse_append]
  rfl
theorem text_append (p r : List (List UInt8)) : text (p ++ r) = text r ++ text p := by
  induction p with
  | nil => simp [text]
  | cons c p ih => rw [List.cons_append, text, ih, text, List.append_assoc]
theorem text_split (l : List It) (k : Nat) (h : k < l.length) : text (pcs (l.drop k)) = ib l[k] ++ text (pcs (l.drop (k + 1))) := by
  rw [List.drop_eq_getElem_cons h]
  unfold pcs
  rw [List.map_cons, List.reverse_cons, text_append]
  simp [text]
theorem ib_len (x : It) (h : ItOk x) : (ib x).length ≤ 10 + x.s.size := by
  unfold ib
  split
  · have := uv_small x.u h.1; omega
  · split
    · have := uv_small _ (Cx.zig_lt x.n h.2.1.1 h.2.1.2); omega
    · rw [txt_len]
      have hm := h.2.2
      unfold maxLen at hm
      have := uv_small x.s.size (by omega); omega
theorem ib_ne (x : It) : ib x ≠ [] := by
  unfold ib
  split
  · exact uv_no _
  · split
    · exact uv_no _
    · rw [txt]; intro h; exact uv_no _ (List.append_eq_nil_iff.mp h).1
theorem text_len (l : List It) (h : ∀ x ∈ l, ItOk x) : (text (pcs l)).length ≤ 10 * l.length + ssum l := by
  induction l with
  | nil => simp [pcs, text]
  | cons x r ih =>
    have e := text_split (x :: r) 0 (by simp)
    simp only [List.drop_zero, List.drop_succ_cons, List.getElem_cons_zero] at e
    rw [e, List.length_append]
    have h1 := ib_len x (h x (by simp))
    have h2 := ih fun y hy => h y (by simp [hy])
    simp only [ssum, List.map_cons, List.sum_cons, List.length_cons] at h2 ⊢
    omega
theorem pcs_ne (l : List It) : ∀ c ∈ pcs l, c ≠ [] := by
  intro c hc
  simp only [pcs, List.mem_reverse, List.mem_map] at hc
  obtain ⟨x, _, rfl⟩ := hc
  exact ib_ne x

def Src0 (w : World) (q : Option Addr) (l : List It) : Prop := ∀ i x, l[i]? = some x → ∃ b o, q = some ⟨b, o, none⟩ ∧ ItAt w b (o + i * 4) x

set_option maxRecDepth 100000 in
set_option maxHeartbeats 1000000 in
theorem items_any (q : Option Addr) (c : Nat) (l : List It) (hl : l.length ≤ maxLen) (hs : ∀ x ∈ l, ItOk x) (w : World) (hc : Src0 w q l) :
    Calls Try.prog 27 #[.slice q l.length c] w fun e w' => e = .returned (.bool (itemsB l)) ∧ w = w' := by
  have HC := Lib.hid hc
  have HS := Lib.hid hs
  clear hc hs
  unfold maxLen at hl
  go_enter Try.func27, Try.ntmps27
  go_wp2
  go_loop [3, 4] (fun n i => ∃ k : Nat, k ≤ min l.length 61 ∧ i = .int .i64 k ∧ n = .int .i64 (isum (l.take k) : Nat)) (fun _ i => 61 - (intOf i).toNat)
  case atStart => exact ⟨0, Nat.zero_le _, rfl, rfl⟩
  case round =>
    obtain ⟨k, hk, rfl, rfl⟩ := hrel
    have hk1 : k ≤ l.length := by omega
    have hk2 : k ≤ 61 := by omega
    have hm : isum (l.take k) ≤ 6100000 := by
      have := isum_le (l.take k)
      rw [List.length_take, Nat.min_eq_left hk1] at this
      omega
    by_cases hlt : k < l.length
    · have hdl : decide ((k : Int) < l.length) = true := by simp; omega
      by_cases h60 : k ≤ 60
      · have hd60 : decide ((k : Int) ≤ 60) = true := by simp; omega
        obtain ⟨b, o, rfl, hit⟩ := HC.out k l[k] (List.getElem?_eq_getElem hlt)
        have h3 := hit.2.2.2
        clear hit
        have hsz := (HS.out _ (List.getElem_mem hlt)).2.2
        unfold maxLen at hsz
        have HM := Lib.hid (isum_snoc l k hlt)
        generalize l[k] = x at *
        generalize isum (l.take k) = m at *
        go_wp2
        go_round
        case rel => exact ⟨k + 1, by omega, by go_num, by rw [HM.out]; go_num⟩
        case measure => simp [intOf]; omega
      · have hd60 : decide ((k : Int) ≤ 60) = false := by simp; omega
        have hll : decide ((l.length : Int) ≤ 60) = false := by simp; omega
        have HF : RowKit.Hid (itemsB l = false) := by unfold itemsB; rw [decide_eq_false (by omega)]; exact Lib.hid rfl
        go_wp2
        go_ret
        exact ⟨ret_bool HF.out.symm, rfl⟩
    · have hdl : decide ((k : Int) < l.length) = false := by simp; omega
      obtain rfl : k = l.length := by omega
      by_cases h60 : l.length ≤ 60
      · have hd60 : decide ((l.length : Int) ≤ 60) = true := by simp; omega
        have HF : RowKit.Hid (itemsB l = decide ((isum (l.take l.length) : Int) ≤ 3000)) := by
          unfold itemsB
          rw [decide_eq_true h60, Bool.true_and, List.take_length]
          apply Lib.hid
          rw [decide_eq_decide]
          omega
        generalize isum (l.take l.length) = m at *
        go_wp2
        go_ret
        exact ⟨ret_bool HF.out.symm, rfl⟩
      · have hd60 : decide ((l.length : Int) ≤ 60) = false := by simp; omega
        have HF : RowKit.Hid (itemsB l = false) := by unfold itemsB; rw [decide_eq_false (by omega)]; exact Lib.hid rfl
        go_wp2
        go_ret
        exact ⟨ret_bool HF.out.symm, rfl⟩

theorem refText_any (s : ByteArray) (hs : s.size ≤ 1000000) (w : World) : Calls Try.prog 31 #[.string s] w fun e w' => e = .returned (.string (str (txt s))) ∧ Below w.heap.size w w' := by
  have hu := uv_small s.size (by omega)
  have hus : (str (Cx.uv s.size)).size ≤ 10 := by rw [str_size]; exact hu
  have HT : RowKit.Hid (str (Cx.uv s.size) ++ s = str (txt s)) := by rw [txt, ← str_append, str_of]; exact Lib.hid rfl
  go_enter Try.func31, Try.ntmps31
  go_wp2_with (go_at_call 15; refine (refUvarint_any s.size (by omega) _).mono ?_; rintro e w1 ⟨rfl, hb1⟩)
  go_ret
  refine ⟨?_, hb1⟩
  show Ending.returned (.string (str (Cx.uv s.size) ++ s)) = _
  rw [HT.out]
end Go.Proofs.Ytnailnlpjakcbaa
