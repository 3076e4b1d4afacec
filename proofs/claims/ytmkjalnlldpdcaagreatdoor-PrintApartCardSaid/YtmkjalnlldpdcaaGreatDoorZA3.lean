/- Texts in a row: A8 A9 A5 B1. -/
import Derived.Test.YtmkjalnlldpdcaaGreatDoorZA2
import Derived.Outline
import Derived.Test.YtmkjalnlldpdcaaGreatDoorZA1
/- Contracts: isDigit, readNumber. -/
namespace Go.Proofs.YtmkjalnlldpdcaaGreatDoor
open Go.RowKit

theorem isDigit_any (c : UInt8) (w : World) : Calls Tryz.prog 168 #[.int .u8 (c.toNat : Nat)] w fun e w' => e = .returned (.bool (Sv.isDig c)) ∧ w = w' := by
  have hc : c.toNat < 256 := c.toNat_lt
  rcases Bool.eq_false_or_eq_true (Sv.isDig c) with h | h
  · obtain ⟨h1, h2⟩ := Sv.isDig_yes h
    have H := Lib.hid h
    clear h
    generalize hn : c.toNat = n at *
    have HN := Lib.hid hn
    clear hn
    have d1 : decide (48 ≤ (n : Int)) = true := by simp; omega
    have d2 : decide ((n : Int) ≤ 57) = true := by simp; omega
    go_enter Tryz.func168, Tryz.ntmps168
    go_wp2
    go_ret
    exact ⟨ret_bool H.out.symm, rfl⟩
  · rcases Sv.isDig_no h with h1 | ⟨h1, h2⟩
    · have H := Lib.hid h
      clear h
      generalize hn : c.toNat = n at *
      have HN := Lib.hid hn
      clear hn
      have d1 : decide (48 ≤ (n : Int)) = false := by simp; omega
      go_enter Tryz.func168, Tryz.ntmps168
      go_wp2
      go_ret
      exact ⟨ret_bool H.out.symm, rfl⟩
    · have H := Lib.hid h
      clear h
      generalize hn : c.toNat = n at *
      have HN := Lib.hid hn
      clear hn
      have d1 : decide (48 ≤ (n : Int)) = true := by simp; omega
      have d2 : decide ((n : Int) ≤ 57) = false := by simp; omega
      go_enter Tryz.func168, Tryz.ntmps168
      go_wp2
      go_ret
      exact ⟨ret_bool H.out.symm, rfl⟩

abbrev rn (l : List UInt8) : Value := .tuple #[.int .i64 (Sv.numV l : Nat), .bool (Sv.numB l)]
theorem read_none (w : World) : Calls Tryz.prog 259 #[.string ⟨#[]⟩] w fun e w' => e = .returned (.tuple #[.int .i64 0, .bool false]) ∧ w = w' := by
  go_enter Tryz.func259, Tryz.ntmps259
  go_wp2
  go_ret2
  exact ⟨rfl, rfl⟩
set_option maxRecDepth 100000 in
theorem read_zero (s : ByteArray) (h1 : 1 < s.size) (hm : s.size ≤ 4194304) (hz : s[0].toNat = 48) (w : World) : Calls Tryz.prog 259 #[.string s] w fun e w' => e = .returned (.tuple #[.int .i64 0, .bool false]) ∧ w = w' := by
  have e0 : ((s[0].toNat : Int) == 48) = true := by rw [hz]; rfl
  have HZ := Lib.hid hz
  clear hz
  have e1 : s.toList.isEmpty = false := by
    rw [ByteArray.toList_eq]
    cases h : s.data.toList with
    | nil => have : s.size = 0 := by rw [← ByteArray.size_data, ← Array.length_toList, h]; rfl
             omega
    | cons a l => rfl
  have e2 : ¬ s.toList = [] := by intro h; rw [h] at e1; cases e1
  have h2 : 0 < s.size := by omega
  have d1 : decide (1 < (s.size : Int)) = true := by simp; omega
  go_enter Tryz.func259, Tryz.ntmps259
  go_wp2
  go_ret2
  exact ⟨rfl, rfl⟩

set_option maxRecDepth 100000 in
set_option maxHeartbeats 1000000 in
theorem read_loop (s : ByteArray) (h0 : 0 < s.size) (hm : s.size ≤ 4194304) (hz : s[0].toNat ≠ 48 ∨ s.size = 1) (w : World) : Calls Tryz.prog 259 #[.string s] w fun e w' => e = .returned (rn s.data.toList) ∧ w = w' := by
  have e1 : s.toList.isEmpty = false := by
    rw [ByteArray.toList_eq]
    cases h : s.data.toList with
    | nil => have : s.size = 0 := by rw [← ByteArray.size_data, ← Array.length_toList, h]; rfl
             omega
    | cons a l => rfl
  have e2 : ¬ s.toList = [] := by intro h; rw [h] at e1; cases e1
  have HL : RowKit.Hid (s.data.toList.length = s.size) := Lib.hid (by simp)
  have HE : RowKit.Hid (∀ k (h : k < s.size) (h2 : k < s.data.toList.length), s.data.toList[k] = s[k]) := Lib.hid (fun k h h2 => by simp; rfl)
  have HZ : RowKit.Hid (¬ (s.data.toList.head? = some 48 ∧ 1 < s.data.toList.length)) := Lib.hid (by
    rintro ⟨g1, g2⟩
    rw [HL.out] at g2
    rcases hz with hz | hz
    · rw [List.head?_eq_getElem?, List.getElem?_eq_getElem (by rw [HL.out]; exact h0), HE.out 0 h0] at g1
      apply hz
      rw [Option.some.inj g1]
      rfl
    · omega)
  have HQ := Lib.hid hz
  have hh : (((s[0].toNat : Int) == 48) = true ∧ decide (1 < (s.size : Int)) = false) ∨ ((s[0].toNat : Int) == 48) = false := by
    rcases hz with h | h
    · right; simp; omega
    · rcases Bool.eq_false_or_eq_true ((s[0].toNat : Int) == 48) with e0 | e0
      · left; exact ⟨e0, by simp; omega⟩
      · exact .inr e0
  clear hz
  rcases hh with ⟨e0, d1⟩ | e0
  all_goals
    go_enter Tryz.func259, Tryz.ntmps259
    go_wp2
    go_loop [2, 19] (fun n i => ∃ k : Nat, k ≤ s.size ∧ i = .int .i64 k ∧ n = .int .i64 (Sv.val (s.data.toList.take k) : Nat) ∧ Sv.val (s.data.toList.take k) ≤ 999999 ∧ (∀ c ∈ s.data.toList.take k, Sv.isDig c = true)) (fun _ i => s.size - (intOf i).toNat)
    case atStart => exact ⟨0, Nat.zero_le _, rfl, rfl, by simp [Sv.val_nil], by simp⟩
    case round =>
      obtain ⟨k, hk, rfl, rfl, hv, hd⟩ := hrel
      have HD := Lib.hid hd
      clear hd
      by_cases hlt : k < s.size
      · have HV : RowKit.Hid (Sv.val (s.data.toList.take (k + 1)) = 10 * Sv.val (s.data.toList.take k) + (s[k].toNat - 48)) := Lib.hid (by rw [Sv.val_take _ k (by rw [HL.out]; exact hlt), HE.out k hlt])
        have HT : RowKit.Hid (s.data.toList.take (k + 1) = s.data.toList.take k ++ [s[k]]) := Lib.hid (by rw [Sv.take_snoc _ k (by rw [HL.out]; exact hlt), HE.out k hlt])
        have hcl : s[k].toNat < 256 := s[k].toNat_lt
        generalize hvv : Sv.val (s.data.toList.take k) = v at *
        have HW := Lib.hid hvv
        clear hvv
        rcases Bool.eq_false_or_eq_true (Sv.isDig s[k]) with h | h
        · obtain ⟨h1, h2⟩ := Sv.isDig_yes h
          have H := Lib.hid h
          clear h
          by_cases h9 : 10 * v + (s[k].toNat - 48) ≤ 999999
          · have d9 : decide (999999 < 10 * (v : Int) + ((s[k].toNat : Int) - 48)) = false := by simp; omega
            go_wp2_with (go_at_call 168; ((with_reducible refine (isDigit_any s[k] _).mono ?_); rintro e w' ⟨rfl, rfl⟩; rw [H.out]))
            go_round
            case rel =>
              have e : 10 * (v : Int) + ((s[k].toNat : Int) - 48) = ((Sv.val (s.data.toList.take (k + 1)) : Nat) : Int) := by rw [HV.out]; omega
              refine ⟨k + 1, by omega, by go_num, by rw [e], by rw [HV.out]; omega, ?_⟩
              intro c hc
              rw [HT.out] at hc
              rcases List.mem_append.1 hc with hc | hc
              · exact HD.out c hc
              · rw [List.mem_singleton.1 hc]; exact H.out
            case measure => simp [intOf]; omega
          · have d9 : decide (999999 < 10 * (v : Int) + ((s[k].toNat : Int) - 48)) = true := by simp; omega
            go_wp2_with (go_at_call 168; ((with_reducible refine (isDigit_any s[k] _).mono ?_); rintro e w' ⟨rfl, rfl⟩; rw [H.out]))
            go_ret2
            have hno := Sv.num_no (Sv.no_big (l := s.data.toList) (k := k + 1) (by rw [HV.out]; omega))
            exact ⟨by rw [rn, hno.1, hno.2]; rfl, rfl⟩
        · have H := Lib.hid h
          clear h
          go_wp2_with (go_at_call 168; ((with_reducible refine (isDigit_any s[k] _).mono ?_); rintro e w' ⟨rfl, rfl⟩; rw [H.out]))
          go_ret2
          have hno := Sv.num_no (Sv.no_digit (l := s.data.toList) (k := k) (by rw [HL.out]; exact hlt) (by rw [HE.out k hlt]; exact H.out))
          exact ⟨by rw [rn, hno.1, hno.2]; rfl, rfl⟩
      · go_wp2
        go_ret2
        obtain rfl : k = s.size := by omega
        have et : s.data.toList.take s.size = s.data.toList := by rw [← HL.out, List.take_length]
        have hyes := Sv.num_yes (l := s.data.toList) ⟨fun h => by have := HL.out; rw [h] at this; simp at this; omega, HZ.out, by have := HD.out; rw [et] at this; exact this, by rw [et] at hv; exact hv⟩
        exact ⟨by rw [rn, hyes.1, hyes.2, et]; rfl, rfl⟩
theorem readNumber_any (s : ByteArray) (hm : s.size ≤ 4194304) (w : World) : Calls Tryz.prog 259 #[.string s] w fun e w' => e = .returned (rn s.data.toList) ∧ w = w' := by
  by_cases h0 : s.size = 0
  · obtain rfl : s = ⟨#[]⟩ := by
      obtain ⟨a⟩ := s
      have : a = #[] := Array.eq_empty_of_size_eq_zero h0
      rw [this]
    have hno := Sv.num_no Sv.no_empty
    have e : rn (⟨#[]⟩ : ByteArray).data.toList = .tuple #[.int .i64 0, .bool false] := by
      show rn [] = _
      rw [rn, hno.1, hno.2]; rfl
    rw [e]
    exact read_none w
  · by_cases hz : s[0].toNat ≠ 48 ∨ s.size = 1
    · exact read_loop s (by omega) hm hz w
    · have h48 : s[0].toNat = 48 := by
        rcases Nat.decEq (s[0].toNat) 48 with h | h
        · exact absurd (.inl h) hz
        · exact h
      have h1 : 1 < s.size := by
        have : ¬ s.size = 1 := fun h => hz (.inr h)
        omega
      have hno := Sv.num_no (Sv.no_zero (l := s.data.toList) (by
        rw [List.head?_eq_getElem?, List.getElem?_eq_getElem (by simp; omega)]
        congr 1
        apply UInt8.toNat_inj.1
        exact h48) (by simp; omega))
      rw [rn, hno.1, hno.2]
      exact read_zero s h1 hm h48 w
end Go.Proofs.YtmkjalnlldpdcaaGreatDoor
/- Contracts: strings.Cut at a point. -/
namespace Go.Proofs.YtmkjalnlldpdcaaGreatDoor
open Go.RowKit

theorem cut_none (s : ByteArray) (c : UInt8) (h : Lib.indexByte s.data.toList c = -1) (w : World) : Calls Tryz.prog 273 #[.string s, .string ⟨#[c]⟩] w fun e w' => e = .returned (.tuple #[.string s, .string ⟨#[]⟩, .bool false]) ∧ w = w' := by
  have H := Lib.hid h
  clear h
  go_enter Tryz.func273, Tryz.ntmps273
  go_wp2_with (go_at_call 285; refine (Tryz.stringslite_Index_one _ _ _).mono ?_; rintro e w' ⟨rfl, rfl⟩; rw [H.out])
  go_ret3
  exact ⟨rfl, rfl⟩
def Drew (w w' : World) : Prop := ∃ n, w' = w.drewN n
theorem cut_some (s : ByteArray) (c : UInt8) (i : Nat) (hi : i < s.size) (hm : s.size ≤ 4194304) (h : Lib.indexByte s.data.toList c = i) (w : World) : Calls Tryz.prog 273 #[.string s, .string ⟨#[c]⟩] w fun e w' => e = .returned (.tuple #[.string (s.extract 0 i), .string (s.extract (i + 1) s.size), .bool true]) ∧ Drew w w' := by
  have H := Lib.hid h
  clear h
  have hz : (⟨#[c]⟩ : ByteArray).size = 1 := rfl
  have HZ := Lib.hid hz
  clear hz
  go_enter Tryz.func273, Tryz.ntmps273
  go_wp2_with (go_at_call 285; refine (Tryz.stringslite_Index_one _ _ _).mono ?_; rintro e w' ⟨rfl, rfl⟩; rw [H.out])
  have e1 : IntKind.i64.wrap ((i : Int) + 1) = (i : Int) + 1 := IntWalk.i64_in _ (by omega)
  have e2 : (0 : Int) ≤ (i : Int) + 1 := by omega
  have e3 : ((i : Int) + 1).toNat = i + 1 := by omega
  have e4 : (⟨#[c]⟩ : ByteArray).size = 1 := rfl
  go_quiet (fail)
  go_wp2
  go_ret3
  exact ⟨rfl, _, rfl⟩
end Go.Proofs.YtmkjalnlldpdcaaGreatDoor
/- Contracts: Next, the program's and the document's. -/
namespace Go.Proofs.YtmkjalnlldpdcaaGreatDoor
open Go.RowKit
namespace Sv
def zero : V := ⟨0, 0, 0⟩
def at' (v : V) (g : Int) : Int := if g = 3 then v.a else if g = 2 then v.b else v.c
def up (v : V) (g : Int) : V := if g = 3 then ⟨v.a + 1, 0, 0⟩ else if g = 2 then ⟨v.a, v.b + 1, 0⟩ else ⟨v.a, v.b, v.c + 1⟩
def next (v : V) (g : Int) : V × Int := if right v = false ∨ g < 1 ∨ 3 < g then (zero, 2) else if at' v g = 999999 then (zero, 9) else (up v g, 0)
end Sv
abbrev nxS (r : Sv.V × Int) : Value := .tuple #[vv r.1, .int .i64 r.2]

end Go.Proofs.YtmkjalnlldpdcaaGreatDoor
/- Contracts: strings.Cut at a point; Parse. -/
namespace Go.Proofs.YtmkjalnlldpdcaaGreatDoor
open Go.RowKit
namespace Sv
def cutS (s : ByteArray) (c : UInt8) : ByteArray × ByteArray × Bool :=
  if Lib.indexByte s.data.toList c = -1 then (s, ⟨#[]⟩, false) else (s.extract 0 (Lib.indexByte s.data.toList c).toNat, s.extract ((Lib.indexByte s.data.toList c).toNat + 1) s.size, true)
def t (s : ByteArray) : ByteArray := (cutS s 46).1
def r (s : ByteArray) : ByteArray := (cutS s 46).2.1
def m (s : ByteArray) : Bool := (cutS s 46).2.2
def nb (s : ByteArray) : Bool := numB (t s).data.toList
def nv (s : ByteArray) : Nat := numV (t s).data.toList
def okS (s : ByteArray) : Bool := nb s && m s && nb (r s) && m (r s) && nb (r (r s)) && !m (r (r s))
def parseS (s : ByteArray) : V × Int := if okS s then (⟨nv s, nv (r s), nv (r (r s))⟩, 0) else (zero, 10)
theorem index_lt {l : List UInt8} {c : UInt8} {i : Nat} (h : Lib.indexByte l c = i) : i < l.length := by
  have := (Lib.indexByte_some h).1
  exact (List.getElem?_eq_some_iff.1 this).1
theorem cut_sizes (s : ByteArray) (c : UInt8) : (cutS s c).1.size ≤ s.size ∧ (cutS s c).2.1.size ≤ s.size := by
  unfold cutS
  split
  · exact ⟨Nat.le_refl _, Nat.zero_le _⟩
  · constructor <;> (simp [ByteArray.size_extract]; try omega)
end Sv
theorem cut39_any (s : ByteArray) (c : UInt8) (hm : s.size ≤ 4194304) (w : World) : Calls Tryz.prog 273 #[.string s, .string ⟨#[c]⟩] w fun e w' => e = .returned (.tuple #[.string (Sv.cutS s c).1, .string (Sv.cutS s c).2.1, .bool (Sv.cutS s c).2.2]) ∧ Drew w w' := by
  by_cases h : Lib.indexByte s.data.toList c = -1
  · have e : Sv.cutS s c = (s, ⟨#[]⟩, false) := by unfold Sv.cutS; rw [if_pos h]
    rw [e]
    exact (cut_none s c h w).mono fun e w' ⟨he, hw⟩ => ⟨he, 0, hw.symm⟩
  · obtain ⟨i, hi⟩ : ∃ i : Nat, Lib.indexByte s.data.toList c = i := by
      have := Lib.indexByte_ge s.data.toList c
      exact ⟨(Lib.indexByte s.data.toList c).toNat, by omega⟩
    have e : Sv.cutS s c = (s.extract 0 i, s.extract (i + 1) s.size, true) := by unfold Sv.cutS; rw [if_neg h, hi]; rfl
    rw [e]
    exact cut_some s c i (by have := Sv.index_lt hi; simpa using this) hm hi w
theorem cut33_any (s : ByteArray) (c : UInt8) (hm : s.size ≤ 4194304) (w : World) : Calls Tryz.prog 258 #[.string s, .string ⟨#[c]⟩] w fun e w' => e = .returned (.tuple #[.string (Sv.cutS s c).1, .string (Sv.cutS s c).2.1, .bool (Sv.cutS s c).2.2]) ∧ Drew w w' := by
  go_enter Tryz.func258, Tryz.ntmps258
  go_wp2_with (go_at_call 273; refine (cut39_any _ _ hm _).mono ?_; rintro e w' ⟨rfl, n, rfl⟩)
  go_ret3
  exact ⟨rfl, _, rfl⟩
theorem cutP_any (s : ByteArray) (hm : s.size ≤ 4194304) (w : World) : Calls Tryz.prog 258 #[.string s, .string ⟨#[46]⟩] w fun e w' => e = .returned (.tuple #[.string (Sv.t s), .string (Sv.r s), .bool (Sv.m s)]) ∧ Drew w w' := cut33_any s 46 hm w
theorem readT_any (s : ByteArray) (hm : s.size ≤ 4194304) (w : World) : Calls Tryz.prog 259 #[.string (Sv.t s)] w fun e w' => e = .returned (.tuple #[.int .i64 (Sv.nv s : Nat), .bool (Sv.nb s)]) ∧ w = w' :=
  readNumber_any (Sv.t s) (Nat.le_trans (Sv.cut_sizes s 46).1 hm) w
theorem parse_fail {s : ByteArray} (h : Sv.okS s = false) : Sv.parseS s = (Sv.zero, 10) := by unfold Sv.parseS; rw [h]; rfl
theorem parse_good {s : ByteArray} (h : Sv.okS s = true) : Sv.parseS s = (⟨Sv.nv s, Sv.nv (Sv.r s), Sv.nv (Sv.r (Sv.r s))⟩, 0) := by unfold Sv.parseS; rw [h]; rfl
theorem r_size (s : ByteArray) : (Sv.r s).size ≤ s.size := (Sv.cut_sizes s 46).2

def PR (s : ByteArray) (w wr : World) : Value → Value → Prop := fun i sv =>
  Below w.heap.size w wr ∧ wr.heap.size = w.heap.size + 2 ∧ wr.heap[w.heap.size]? = some (.cells #[.int .i64 0, .int .i64 0, .int .i64 0] 52 (0, 0)) ∧
  ((i = .int .i64 0 ∧ sv = .string s ∧ wr.heap[w.heap.size + 1]? = some (.cells #[.int .i64 0, .int .i64 0, .int .i64 0] 170 (0, 0))) ∨ (i = .int .i64 1 ∧ sv = .string (Sv.r s) ∧ wr.heap[w.heap.size + 1]? = some (.cells #[.int .i64 (Sv.nv s : Nat), .int .i64 0, .int .i64 0] 170 (0, 0)) ∧ Sv.nb s = true ∧ Sv.m s = true) ∨ (i = .int .i64 2 ∧ sv = .string (Sv.r (Sv.r s)) ∧ wr.heap[w.heap.size + 1]? = some (.cells #[.int .i64 (Sv.nv s : Nat), .int .i64 (Sv.nv (Sv.r s) : Nat), .int .i64 0] 170 (0, 0)) ∧ Sv.nb s = true ∧ Sv.m s = true ∧ Sv.nb (Sv.r s) = true ∧ Sv.m (Sv.r s) = true) ∨ (i = .int .i64 3 ∧ sv = .string (Sv.r (Sv.r (Sv.r s))) ∧ wr.heap[w.heap.size + 1]? = some (.cells #[.int .i64 (Sv.nv s : Nat), .int .i64 (Sv.nv (Sv.r s) : Nat), .int .i64 (Sv.nv (Sv.r (Sv.r s)) : Nat)] 170 (0, 0)) ∧ Sv.nb s = true ∧ Sv.m s = true ∧ Sv.nb (Sv.r s) = true ∧ Sv.m (Sv.r s) = true ∧ Sv.nb (Sv.r (Sv.r s)) = true ∧ Sv.m (Sv.r (Sv.r s)) = false))

set_option maxRecDepth 100000 in
set_option maxHeartbeats 4000000 in
theorem parse_any (s : ByteArray) (hm : s.size ≤ 4194304) (w : World) : Calls Tryz.prog 227 #[.string s] w fun e w' => e = .returned (nxS (Sv.parseS s)) ∧ Below w.heap.size w w' := by
  have hm1 : (Sv.r s).size ≤ 4194304 := Nat.le_trans (r_size s) hm
  have hm2 : (Sv.r (Sv.r s)).size ≤ 4194304 := Nat.le_trans (r_size _) hm1
  go_enter Tryz.func227, Tryz.ntmps227
  go_wp2
  go_loopw [0, 12] (fun sv i wr => PR s w wr i sv) (fun _ i _ => 3 - (intOf i).toNat)
  case atStart =>
    refine ⟨below2X w _ _, by simp, hb_alloc (hb_new w _) _, .inl ⟨rfl, rfl, ?_⟩⟩
    have k2 := hb_new (w.alloc (.cells #[.int .i64 0, .int .i64 0, .int .i64 0] 52)) (.cells #[.int .i64 0, .int .i64 0, .int .i64 0] 170)
    rw [World.size_alloc] at k2
    exact k2
  case round =>
    obtain ⟨hbel, hsz, hb0, hcase⟩ := hrel
    have q0 := hb_at hb0 0 rfl
    have q1 := hb_at hb0 1 rfl
    have q2 := hb_at hb0 2 rfl
    have g0 := hb_free hb0 0
    have g1 := hb_free hb0 1
    have g2 := hb_free hb0 2
    have HB := Lib.hid hb0
    have HS := Lib.hid hsz
    clear hb0 hsz
    rcases hcase with ⟨rfl, rfl, hb1⟩ | ⟨rfl, rfl, hb1, n0, m0⟩ | ⟨rfl, rfl, hb1, n0, m0, n1, m1⟩ | ⟨rfl, rfl, hb1, n0, m0, n1, m1, n2, m2⟩
    · have HC := Lib.hid hb1
      have c0 := hb_at hb1 0 rfl
      have c1 := hb_at hb1 1 rfl
      have c2 := hb_at hb1 2 rfl
      have f0 := hb_free hb1 0
      have f1 := hb_free hb1 1
      have f2 := hb_free hb1 2
      clear hb1
      rcases Bool.eq_false_or_eq_true (Sv.nb s) with hn | hn
      · rcases Bool.eq_false_or_eq_true (Sv.m s) with hmm | hmm
        · have HN := Lib.hid hn
          have HM := Lib.hid hmm
          clear hn hmm
          go_wp2_with (first
            | (go_at_call 258; ((with_reducible refine (cutP_any s (by assumption) _).mono ?_); rintro e w1 ⟨rfl, nd, rfl⟩; rw [HM.out]))
            | (go_at_call 259; ((with_reducible refine (readT_any s (by assumption) _).mono ?_); rintro e w1 ⟨rfl, rfl⟩; rw [HN.out])))
          go_roundw
          case rel => exact ⟨(below_drewN hbel nd).setCell (by simp) _, by have := HS.out; simpa using this, hb_set_other (hb_drewN HB.out nd) _ (by simp), .inr (.inl ⟨rfl, rfl, hb_set_same (hb_drewN HC.out nd) 0 _, HN.out, HM.out⟩)⟩
          case measure => simp [intOf]
        · have HN := Lib.hid hn
          have HM := Lib.hid hmm
          clear hn hmm
          go_wp2_with (first
            | (go_at_call 258; ((with_reducible refine (cutP_any s (by assumption) _).mono ?_); rintro e w1 ⟨rfl, nd, rfl⟩; rw [HM.out]))
            | (go_at_call 259; ((with_reducible refine (readT_any s (by assumption) _).mono ?_); rintro e w1 ⟨rfl, rfl⟩; rw [HN.out])))
          have ok : Sv.okS s = false := by unfold Sv.okS; simp only [HN.out, HM.out]; rfl
          exact bodyPost_ret (v := .tuple #[.agg #[.int .i64 0, .int .i64 0, .int .i64 0], .int .i64 10]) (by simp [results, Tryz.results227, go_sem, q0, q1, q2]) rfl ⟨by rw [parse_fail ok]; rfl, ((((below_drewN hbel nd).setCell (by simp) _).setCell (by simp) _).setCell (by simp) _)⟩
      · have HN := Lib.hid hn
        clear hn
        go_wp2_with (first
          | (go_at_call 258; ((with_reducible refine (cutP_any s (by assumption) _).mono ?_); rintro e w1 ⟨rfl, nd, rfl⟩))
          | (go_at_call 259; ((with_reducible refine (readT_any s (by assumption) _).mono ?_); rintro e w1 ⟨rfl, rfl⟩; rw [HN.out])))
        have ok : Sv.okS s = false := by unfold Sv.okS; simp only [HN.out]; rfl
        exact bodyPost_ret (v := .tuple #[.agg #[.int .i64 0, .int .i64 0, .int .i64 0], .int .i64 10]) (by simp [results, Tryz.results227, go_sem, q0, q1, q2]) rfl ⟨by rw [parse_fail ok]; rfl, ((((below_drewN hbel nd).setCell (by simp) _).setCell (by simp) _).setCell (by simp) _)⟩
    · have N0 := Lib.hid n0; have M0 := Lib.hid m0; clear n0 m0; have HC := Lib.hid hb1
      have c0 := hb_at hb1 0 rfl
      have c1 := hb_at hb1 1 rfl
      have c2 := hb_at hb1 2 rfl
      have f0 := hb_free hb1 0
      have f1 := hb_free hb1 1
      have f2 := hb_free hb1 2
      clear hb1
      rcases Bool.eq_false_or_eq_true (Sv.nb (Sv.r s)) with hn | hn
      · rcases Bool.eq_false_or_eq_true (Sv.m (Sv.r s)) with hmm | hmm
        · have HN := Lib.hid hn
          have HM := Lib.hid hmm
          clear hn hmm
          go_wp2_with (first
            | (go_at_call 258; ((with_reducible refine (cutP_any (Sv.r s) (by assumption) _).mono ?_); rintro e w1 ⟨rfl, nd, rfl⟩; rw [HM.out]))
            | (go_at_call 259; ((with_reducible refine (readT_any (Sv.r s) (by assumption) _).mono ?_); rintro e w1 ⟨rfl, rfl⟩; rw [HN.out])))
          go_roundw
          case rel => exact ⟨(below_drewN hbel nd).setCell (by simp) _, by have := HS.out; simpa using this, hb_set_other (hb_drewN HB.out nd) _ (by simp), .inr (.inr (.inl ⟨rfl, rfl, hb_set_same (hb_drewN HC.out nd) 1 _, N0.out, M0.out, HN.out, HM.out⟩))⟩
          case measure => simp [intOf]
        · have HN := Lib.hid hn
          have HM := Lib.hid hmm
          clear hn hmm
          go_wp2_with (first
            | (go_at_call 258; ((with_reducible refine (cutP_any (Sv.r s) (by assumption) _).mono ?_); rintro e w1 ⟨rfl, nd, rfl⟩; rw [HM.out]))
            | (go_at_call 259; ((with_reducible refine (readT_any (Sv.r s) (by assumption) _).mono ?_); rintro e w1 ⟨rfl, rfl⟩; rw [HN.out])))
          have ok : Sv.okS s = false := by unfold Sv.okS; simp only [N0.out, M0.out, HN.out, HM.out]; rfl
          exact bodyPost_ret (v := .tuple #[.agg #[.int .i64 0, .int .i64 0, .int .i64 0], .int .i64 10]) (by simp [results, Tryz.results227, go_sem, q0, q1, q2]) rfl ⟨by rw [parse_fail ok]; rfl, ((((below_drewN hbel nd).setCell (by simp) _).setCell (by simp) _).setCell (by simp) _)⟩
      · have HN := Lib.hid hn
        clear hn
        go_wp2_with (first
          | (go_at_call 258; ((with_reducible refine (cutP_any (Sv.r s) (by assumption) _).mono ?_); rintro e w1 ⟨rfl, nd, rfl⟩))
          | (go_at_call 259; ((with_reducible refine (readT_any (Sv.r s) (by assumption) _).mono ?_); rintro e w1 ⟨rfl, rfl⟩; rw [HN.out])))
        have ok : Sv.okS s = false := by unfold Sv.okS; simp only [N0.out, M0.out, HN.out]; rfl
        exact bodyPost_ret (v := .tuple #[.agg #[.int .i64 0, .int .i64 0, .int .i64 0], .int .i64 10]) (by simp [results, Tryz.results227, go_sem, q0, q1, q2]) rfl ⟨by rw [parse_fail ok]; rfl, ((((below_drewN hbel nd).setCell (by simp) _).setCell (by simp) _).setCell (by simp) _)⟩
    · have N0 := Lib.hid n0; have M0 := Lib.hid m0; clear n0 m0; have N1 := Lib.hid n1; have M1 := Lib.hid m1; clear n1 m1; have HC := Lib.hid hb1
      have c0 := hb_at hb1 0 rfl
      have c1 := hb_at hb1 1 rfl
      have c2 := hb_at hb1 2 rfl
      have f0 := hb_free hb1 0
      have f1 := hb_free hb1 1
      have f2 := hb_free hb1 2
      clear hb1
      rcases Bool.eq_false_or_eq_true (Sv.nb (Sv.r (Sv.r s))) with hn | hn
      · rcases Bool.eq_false_or_eq_true (Sv.m (Sv.r (Sv.r s))) with hmm | hmm
        · have HN := Lib.hid hn
          have HM := Lib.hid hmm
          clear hn hmm
          go_wp2_with (first
            | (go_at_call 258; ((with_reducible refine (cutP_any (Sv.r (Sv.r s)) (by assumption) _).mono ?_); rintro e w1 ⟨rfl, nd, rfl⟩; rw [HM.out]))
            | (go_at_call 259; ((with_reducible refine (readT_any (Sv.r (Sv.r s)) (by assumption) _).mono ?_); rintro e w1 ⟨rfl, rfl⟩; rw [HN.out])))
          have ok : Sv.okS s = false := by unfold Sv.okS; simp only [N0.out, M0.out, N1.out, M1.out, HN.out, HM.out]; rfl
          exact bodyPost_ret (v := .tuple #[.agg #[.int .i64 0, .int .i64 0, .int .i64 0], .int .i64 10]) (by simp [results, Tryz.results227, go_sem, q0, q1, q2]) rfl ⟨by rw [parse_fail ok]; rfl, ((((below_drewN hbel nd).setCell (by simp) _).setCell (by simp) _).setCell (by simp) _)⟩
        · have HN := Lib.hid hn
          have HM := Lib.hid hmm
          clear hn hmm
          go_wp2_with (first
            | (go_at_call 258; ((with_reducible refine (cutP_any (Sv.r (Sv.r s)) (by assumption) _).mono ?_); rintro e w1 ⟨rfl, nd, rfl⟩; rw [HM.out]))
            | (go_at_call 259; ((with_reducible refine (readT_any (Sv.r (Sv.r s)) (by assumption) _).mono ?_); rintro e w1 ⟨rfl, rfl⟩; rw [HN.out])))
          go_roundw
          case rel => exact ⟨(below_drewN hbel nd).setCell (by simp) _, by have := HS.out; simpa using this, hb_set_other (hb_drewN HB.out nd) _ (by simp), .inr (.inr (.inr (⟨rfl, rfl, hb_set_same (hb_drewN HC.out nd) 2 _, N0.out, M0.out, N1.out, M1.out, HN.out, HM.out⟩)))⟩
          case measure => simp [intOf]
      · have HN := Lib.hid hn
        clear hn
        go_wp2_with (first
          | (go_at_call 258; ((with_reducible refine (cutP_any (Sv.r (Sv.r s)) (by assumption) _).mono ?_); rintro e w1 ⟨rfl, nd, rfl⟩))
          | (go_at_call 259; ((with_reducible refine (readT_any (Sv.r (Sv.r s)) (by assumption) _).mono ?_); rintro e w1 ⟨rfl, rfl⟩; rw [HN.out])))
        have ok : Sv.okS s = false := by unfold Sv.okS; simp only [N0.out, M0.out, N1.out, M1.out, HN.out]; rfl
        exact bodyPost_ret (v := .tuple #[.agg #[.int .i64 0, .int .i64 0, .int .i64 0], .int .i64 10]) (by simp [results, Tryz.results227, go_sem, q0, q1, q2]) rfl ⟨by rw [parse_fail ok]; rfl, ((((below_drewN hbel nd).setCell (by simp) _).setCell (by simp) _).setCell (by simp) _)⟩
    · have N0 := Lib.hid n0; have M0 := Lib.hid m0; clear n0 m0; have N1 := Lib.hid n1; have M1 := Lib.hid m1; clear n1 m1; have N2 := Lib.hid n2; have M2 := Lib.hid m2; clear n2 m2; have HC := Lib.hid hb1
      have c0 := hb_at hb1 0 rfl
      have c1 := hb_at hb1 1 rfl
      have c2 := hb_at hb1 2 rfl
      have f0 := hb_free hb1 0
      have f1 := hb_free hb1 1
      have f2 := hb_free hb1 2
      clear hb1
      have hlt : w.heap.size < wr.heap.size := by have := HS.out; omega
      go_wp2_with (go_at_call 260; ((with_reducible refine (version_any ⟨Sv.nv s, Sv.nv (Sv.r s), Sv.nv (Sv.r (Sv.r s))⟩ _).mono ?_); rintro e w1 ⟨rfl, hb⟩; obtain ⟨hc1, hf1⟩ := bcellX hb))
      have ok : Sv.okS s = true := by unfold Sv.okS; simp only [N0.out, M0.out, N1.out, M1.out, N2.out, M2.out]; rfl
      exact bodyPost_ret (v := .tuple #[.agg #[.int .i64 (Sv.nv s : Nat), .int .i64 (Sv.nv (Sv.r s) : Nat), .int .i64 (Sv.nv (Sv.r (Sv.r s)) : Nat)], .int .i64 0]) (by simp [results, Tryz.results227, go_sem, hc1, hlt, q0, q1, q2]) rfl ⟨by rw [parse_good ok], ((((hbel.trans (hb.mono (by omega))).setCell (by simp) _).setCell (by simp) _).setCell (by simp) _)⟩
end Go.Proofs.YtmkjalnlldpdcaaGreatDoor
