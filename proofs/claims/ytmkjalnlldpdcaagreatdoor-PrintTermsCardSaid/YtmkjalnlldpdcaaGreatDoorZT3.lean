/- Texts in a row: M1 A8 A9 A5. -/
import Derived.Test.YtmkjalnlldpdcaaGreatDoorZT1
import Derived.Lib.IndexMore
import Derived.Lib.IndexLaws
import Derived.Test.YtmkjalnlldpdcaaGreatDoorZT2
import Derived.Outline
set_option maxHeartbeats 16000000
set_option maxRecDepth 100000
namespace Go.Proofs.YtmkjalnlldpdcaaGreatDoor
namespace Sv
def isDig (c : UInt8) : Bool := decide (48 ≤ c.toNat ∧ c.toNat ≤ 57)
theorem isDig_yes {c : UInt8} (h : isDig c = true) : 48 ≤ c.toNat ∧ c.toNat ≤ 57 := by unfold isDig at h; exact of_decide_eq_true h
theorem isDig_no {c : UInt8} (h : isDig c = false) : c.toNat < 48 ∨ (48 ≤ c.toNat ∧ 57 < c.toNat) := by
 unfold isDig at h
 have := of_decide_eq_false h
 omega
def val (l : List UInt8) : Nat := l.foldl (fun n c => 10 * n + (c.toNat - 48)) 0
theorem val_nil : val [] = 0 := rfl
theorem val_snoc (l : List UInt8) (c : UInt8) : val (l ++ [c]) = 10 * val l + (c.toNat - 48) := by simp [val, List.foldl_append]
theorem take_snoc (l : List UInt8) (k : Nat) (h : k < l.length) : l.take (k + 1) = l.take k ++ [l[k]] := List.take_succ_eq_append_getElem h
theorem val_take (l : List UInt8) (k : Nat) (h : k < l.length) : val (l.take (k + 1)) = 10 * val (l.take k) + (l[k].toNat - 48) := by
 rw [take_snoc l k h, val_snoc]
theorem foldl_ge (l : List UInt8) (a b : Nat) (h : a ≤ b) : a ≤ l.foldl (fun n c => 10 * n + (c.toNat - 48)) b := by
 induction l generalizing b with
 | nil => exact h
 | cons c l ih => exact ih _ (by show a ≤ 10 * b + (c.toNat - 48); omega)
theorem val_mono (l : List UInt8) (k : Nat) : val (l.take k) ≤ val l := by
 have e : val l = (l.drop k).foldl (fun n c => 10 * n + (c.toNat - 48)) (val (l.take k)) := by
  unfold val
  rw [← List.foldl_append, List.take_append_drop]
 rw [e]
 exact foldl_ge _ _ _ (Nat.le_refl _)
def NumP (l : List UInt8) : Prop := l ≠ [] ∧ ¬ (l.head? = some 48 ∧ 1 < l.length) ∧ (∀ c ∈ l, isDig c = true) ∧ val l ≤ 999999
instance (l : List UInt8) : Decidable (NumP l) := by unfold NumP; exact inferInstance
def numB (l : List UInt8) : Bool := decide (NumP l)
def numV (l : List UInt8) : Nat := if NumP l then val l else 0
theorem num_no {l : List UInt8} (h : ¬ NumP l) : numB l = false ∧ numV l = 0 := by
 unfold numB numV
 rw [if_neg h]
 exact ⟨decide_eq_false h, rfl⟩
theorem num_yes {l : List UInt8} (h : NumP l) : numB l = true ∧ numV l = val l := by
 unfold numB numV
 rw [if_pos h]
 exact ⟨decide_eq_true h, rfl⟩
theorem no_empty : ¬ NumP [] := fun h => h.1 rfl
theorem no_zero {l : List UInt8} (h : l.head? = some 48) (h1 : 1 < l.length) : ¬ NumP l := fun g => g.2.1 ⟨h, h1⟩
theorem no_digit {l : List UInt8} {k : Nat} (h : k < l.length) (hd : isDig l[k] = false) : ¬ NumP l := fun g => by
 have := g.2.2.1 l[k] (List.getElem_mem h)
 rw [hd] at this
 cases this
theorem no_big {l : List UInt8} {k : Nat} (h : 999999 < val (l.take k)) : ¬ NumP l := fun g => by
 have := val_mono l k
 have := g.2.2.2
 omega
end Sv
end Go.Proofs.YtmkjalnlldpdcaaGreatDoor
namespace Go.Proofs.YtmkjalnlldpdcaaGreatDoor
open Go.RowKit

theorem isDigit_any (c : UInt8) (w : World) : Calls Tryz.prog 168 #[.int .u8 (c.toNat : Nat)] w fun e w' => e = .returned (.bool (Sv.isDig c)) ∧ w = w' := by
 have hc : c.toNat < 256 := c.toNat_lt
 rcases Bool.eq_false_or_eq_true (Sv.isDig c) with h | h
 · obtain ⟨h1, h2⟩ := Sv.isDig_yes h
   have H := Hd h
   clear h
   generalize hn : c.toNat = n at *
   have HN := Hd hn
   clear hn
   have d1 : decide (48 ≤ (n : Int)) = true := by simp; omega
   have d2 : decide ((n : Int) ≤ 57) = true := by simp; omega
   go_enter Tryz.func168, Tryz.ntmps168
   go_wp2
   go_ret
   exact ⟨ret_bool H.out.symm, rfl⟩
 · rcases Sv.isDig_no h with h1 | ⟨h1, h2⟩
   · have H := Hd h
     clear h
     generalize hn : c.toNat = n at *
     have HN := Hd hn
     clear hn
     have d1 : decide (48 ≤ (n : Int)) = false := by simp; omega
     go_enter Tryz.func168, Tryz.ntmps168
     go_wp2
     go_ret
     exact ⟨ret_bool H.out.symm, rfl⟩
   · have H := Hd h
     clear h
     generalize hn : c.toNat = n at *
     have HN := Hd hn
     clear hn
     have d1 : decide (48 ≤ (n : Int)) = true := by simp; omega
     have d2 : decide ((n : Int) ≤ 57) = false := by simp; omega
     go_enter Tryz.func168, Tryz.ntmps168
     go_wp2
     go_ret
     exact ⟨ret_bool H.out.symm, rfl⟩

abbrev rn (l : List UInt8) : Value := .tuple #[.int .i64 (Sv.numV l : Nat), .bool (Sv.numB l)]
theorem read_none (w : World) : Calls Tryz.prog 259 #[.string ⟨#[]⟩] w fun e w' => e = .returned (.tuple #[.int .i64 0, .bool false]) ∧ w = w' := by
 go_enter Tryz.func259, Tryz.ntmps259
 go_wp2
 go_ret2
 exact ⟨rfl, rfl⟩
theorem read_zero (s : ByteArray) (h1 : 1 < s.size) (hm : s.size ≤ 4194304) (hz : s[0].toNat = 48) (w : World) : Calls Tryz.prog 259 #[.string s] w fun e w' => e = .returned (.tuple #[.int .i64 0, .bool false]) ∧ w = w' := by
 have e0 : ((s[0].toNat : Int) == 48) = true := by rw [hz]; rfl
 have HZ := Hd hz
 clear hz
 have e1 : s.toList.isEmpty = false := by
  rw [ByteArray.toList_eq]
  cases h : s.data.toList with
  | nil => have : s.size = 0 := by rw [← ByteArray.size_data, ← Array.length_toList, h]; rfl
           omega
  | cons a l => rfl
 have e2 : ¬ s.toList = [] := by intro h; rw [h] at e1; cases e1
 have h2 : 0 < s.size := by omega
 have d1 : decide (1 < (s.size : Int)) = true := by simp; omega
 go_enter Tryz.func259, Tryz.ntmps259
 go_wp2
 go_ret2
 exact ⟨rfl, rfl⟩

theorem read_loop (s : ByteArray) (h0 : 0 < s.size) (hm : s.size ≤ 4194304) (hz : s[0].toNat ≠ 48 ∨ s.size = 1) (w : World) : Calls Tryz.prog 259 #[.string s] w fun e w' => e = .returned (rn s.data.toList) ∧ w = w' := by
 have e1 : s.toList.isEmpty = false := by
  rw [ByteArray.toList_eq]
  cases h : s.data.toList with
  | nil => have : s.size = 0 := by rw [← ByteArray.size_data, ← Array.length_toList, h]; rfl
           omega
  | cons a l => rfl
 have e2 : ¬ s.toList = [] := by intro h; rw [h] at e1; cases e1
 have HL : RowKit.Hid (s.data.toList.length = s.size) := Hd (by simp)
 have HE : RowKit.Hid (∀ k (h : k < s.size) (h2 : k < s.data.toList.length), s.data.toList[k] = s[k]) := Hd (fun k h h2 => by simp; rfl)
 have HZ : RowKit.Hid (¬ (s.data.toList.head? = some 48 ∧ 1 < s.data.toList.length)) := Hd (by
  rintro ⟨g1, g2⟩
  rw [HL.out] at g2
  rcases hz with hz | hz
  · rw [List.head?_eq_getElem?, List.getElem?_eq_getElem (by rw [HL.out]; exact h0), HE.out 0 h0] at g1
    apply hz
    rw [Option.some.inj g1]
    rfl
  · omega)
 have HQ := Hd hz
 have hh : (((s[0].toNat : Int) == 48) = true ∧ decide (1 < (s.size : Int)) = false) ∨ ((s[0].toNat : Int) == 48) = false := by
  rcases hz with h | h
  · right; simp; omega
  · rcases Bool.eq_false_or_eq_true ((s[0].toNat : Int) == 48) with e0 | e0
    · left; exact ⟨e0, by simp; omega⟩
    · exact .inr e0
 clear hz
 rcases hh with ⟨e0, d1⟩ | e0
 all_goals
  go_enter Tryz.func259, Tryz.ntmps259
  go_wp2
  go_loop [2, 19] (fun n i => ∃ k : Nat, k ≤ s.size ∧ i = .int .i64 k ∧ n = .int .i64 (Sv.val (s.data.toList.take k) : Nat) ∧ Sv.val (s.data.toList.take k) ≤ 999999 ∧ (∀ c ∈ s.data.toList.take k, Sv.isDig c = true)) (fun _ i => s.size - (intOf i).toNat)
  case atStart => exact ⟨0, Nat.zero_le _, rfl, rfl, by simp [Sv.val_nil], by simp⟩
  case round =>
   obtain ⟨k, hk, rfl, rfl, hv, hd⟩ := hrel
   have HD := Hd hd
   clear hd
   by_cases hlt : k < s.size
   · have HV : RowKit.Hid (Sv.val (s.data.toList.take (k + 1)) = 10 * Sv.val (s.data.toList.take k) + (s[k].toNat - 48)) := Hd (by rw [Sv.val_take _ k (by rw [HL.out]; exact hlt), HE.out k hlt])
     have HT : RowKit.Hid (s.data.toList.take (k + 1) = s.data.toList.take k ++ [s[k]]) := Hd (by rw [Sv.take_snoc _ k (by rw [HL.out]; exact hlt), HE.out k hlt])
     have hcl : s[k].toNat < 256 := s[k].toNat_lt
     generalize hvv : Sv.val (s.data.toList.take k) = v at *
     have HW := Hd hvv
     clear hvv
     rcases Bool.eq_false_or_eq_true (Sv.isDig s[k]) with h | h
     · obtain ⟨h1, h2⟩ := Sv.isDig_yes h
       have H := Hd h
       clear h
       by_cases h9 : 10 * v + (s[k].toNat - 48) ≤ 999999
       · have d9 : decide (999999 < 10 * (v : Int) + ((s[k].toNat : Int) - 48)) = false := by simp; omega
         go_wp2_with (go_at_call 168; ((with_reducible refine (isDigit_any s[k] _).mono ?_); rintro e w' ⟨rfl, rfl⟩; rw [H.out]))
         go_round
         case rel =>
          have e : 10 * (v : Int) + ((s[k].toNat : Int) - 48) = ((Sv.val (s.data.toList.take (k + 1)) : Nat) : Int) := by rw [HV.out]; omega
          refine ⟨k + 1, by omega, by go_num, by rw [e], by rw [HV.out]; omega, ?_⟩
          intro c hc
          rw [HT.out] at hc
          rcases List.mem_append.1 hc with hc | hc
          · exact HD.out c hc
          · rw [List.mem_singleton.1 hc]; exact H.out
         case measure => simp [intOf]; omega
       · have d9 : decide (999999 < 10 * (v : Int) + ((s[k].toNat : Int) - 48)) = true := by simp; omega
         go_wp2_with (go_at_call 168; ((with_reducible refine (isDigit_any s[k] _).mono ?_); rintro e w' ⟨rfl, rfl⟩; rw [H.out]))
         go_ret2
         have hno := Sv.num_no (Sv.no_big (l := s.data.toList) (k := k + 1) (by rw [HV.out]; omega))
         exact ⟨by rw [rn, hno.1, hno.2]; rfl, rfl⟩
     · have H := Hd h
       clear h
       go_wp2_with (go_at_call 168; ((with_reducible refine (isDigit_any s[k] _).mono ?_); rintro e w' ⟨rfl, rfl⟩; rw [H.out]))
       go_ret2
       have hno := Sv.num_no (Sv.no_digit (l := s.data.toList) (k := k) (by rw [HL.out]; exact hlt) (by rw [HE.out k hlt]; exact H.out))
       exact ⟨by rw [rn, hno.1, hno.2]; rfl, rfl⟩
   · go_wp2
     go_ret2
     obtain rfl : k = s.size := by omega
     have et : s.data.toList.take s.size = s.data.toList := by rw [← HL.out, List.take_length]
     have hyes := Sv.num_yes (l := s.data.toList) ⟨fun h => by have := HL.out; rw [h] at this; simp at this; omega, HZ.out, by have := HD.out; rw [et] at this; exact this, by rw [et] at hv; exact hv⟩
     exact ⟨by rw [rn, hyes.1, hyes.2, et]; rfl, rfl⟩
theorem readNumber_any (s : ByteArray) (hm : s.size ≤ 4194304) (w : World) : Calls Tryz.prog 259 #[.string s] w fun e w' => e = .returned (rn s.data.toList) ∧ w = w' := by
 by_cases h0 : s.size = 0
 · obtain rfl : s = ⟨#[]⟩ := by
    obtain ⟨a⟩ := s
    have : a = #[] := Array.eq_empty_of_size_eq_zero h0
    rw [this]
   have hno := Sv.num_no Sv.no_empty
   have e : rn (⟨#[]⟩ : ByteArray).data.toList = .tuple #[.int .i64 0, .bool false] := by
    show rn [] = _
    rw [rn, hno.1, hno.2]; rfl
   rw [e]
   exact read_none w
 · by_cases hz : s[0].toNat ≠ 48 ∨ s.size = 1
   · exact read_loop s (by omega) hm hz w
   · have h48 : s[0].toNat = 48 := by
      rcases Nat.decEq (s[0].toNat) 48 with h | h
      · exact absurd (.inl h) hz
      · exact h
     have h1 : 1 < s.size := by
      have : ¬ s.size = 1 := fun h => hz (.inr h)
      omega
     have hno := Sv.num_no (Sv.no_zero (l := s.data.toList) (by
      rw [List.head?_eq_getElem?, List.getElem?_eq_getElem Q69]
      congr 1
      apply UInt8.toNat_inj.1
      exact h48) Q69)
     rw [rn, hno.1, hno.2]
     exact read_zero s h1 hm h48 w
theorem cut_none (s : ByteArray) (c : UInt8) (h : Lib.indexByte s.data.toList c = -1) (w : World) : Calls Tryz.prog 273 #[.string s, .string ⟨#[c]⟩] w fun e w' => e = .returned (.tuple #[.string s, .string ⟨#[]⟩, .bool false]) ∧ w = w' := by
 have H := Hd h
 clear h
 go_enter Tryz.func273, Tryz.ntmps273
 go_wp2_with (go_at_call 285; refine (Tryz.stringslite_Index_one _ _ _).mono ?_; rintro e w' ⟨rfl, rfl⟩; rw [H.out])
 go_ret3
 exact ⟨rfl, rfl⟩
def Drew (w w' : World) : Prop := ∃ n, w' = w.drewN n
theorem cut_some (s : ByteArray) (c : UInt8) (i : Nat) (hi : i < s.size) (hm : s.size ≤ 4194304) (h : Lib.indexByte s.data.toList c = i) (w : World) : Calls Tryz.prog 273 #[.string s, .string ⟨#[c]⟩] w fun e w' => e = .returned (.tuple #[.string (s.extract 0 i), .string (s.extract (i + 1) s.size), .bool true]) ∧ Drew w w' := by
 have H := Hd h
 clear h
 have hz : (⟨#[c]⟩ : ByteArray).size = 1 := rfl
 have HZ := Hd hz
 clear hz
 go_enter Tryz.func273, Tryz.ntmps273
 go_wp2_with (go_at_call 285; refine (Tryz.stringslite_Index_one _ _ _).mono ?_; rintro e w' ⟨rfl, rfl⟩; rw [H.out])
 have e1 : IntKind.i64.wrap ((i : Int) + 1) = (i : Int) + 1 := IntWalk.i64_in _ (by omega)
 have e2 : (0 : Int) ≤ (i : Int) + 1 := by omega
 have e3 : ((i : Int) + 1).toNat = i + 1 := by omega
 have e4 : (⟨#[c]⟩ : ByteArray).size = 1 := rfl
 go_quiet (fail)
 go_wp2
 go_ret3
 exact ⟨rfl, _, rfl⟩
namespace Sv
def zero : V := ⟨0, 0, 0⟩
def at' (v : V) (g : Int) : Int := if g = 3 then v.a else if g = 2 then v.b else v.c
def up (v : V) (g : Int) : V := if g = 3 then ⟨v.a + 1, 0, 0⟩ else if g = 2 then ⟨v.a, v.b + 1, 0⟩ else ⟨v.a, v.b, v.c + 1⟩
def next (v : V) (g : Int) : V × Int := if right v = false ∨ g < 1 ∨ 3 < g then (zero, 2) else if at' v g = 999999 then (zero, 9) else (up v g, 0)
end Sv
abbrev nxS (r : Sv.V × Int) : Value := .tuple #[vv r.1, .int .i64 r.2]

end Go.Proofs.YtmkjalnlldpdcaaGreatDoor
