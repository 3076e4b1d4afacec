/- Names as tokens. -/
import Derived.Test.YthcpmdgdbceeiaaGreatDoorT5
import Derived.Test.YthcpmdgdbceeiaaGreatDoorS1
import Derived.Outline
namespace Go.Proofs.YthcpmdgdbceeiaaGreatDoor
open Go.RowKit
/-- The text is no keyword, as the program finds it. -/
def NoKey (s : ByteArray) : Prop := ∀ W : World, Calls Tryz.prog 108 #[.string s] W fun e w' => e = .returned (.bool false) ∧ W = w'
set_option maxRecDepth 100000 in
theorem nokey_f : NoKey ⟨#[102]⟩ := by
  intro W
  go_enter Tryz.func108, Tryz.ntmps108
  go_wp2
  go_ret
  exact ⟨rfl, rfl⟩
set_option maxRecDepth 100000 in
theorem nokey_x : NoKey ⟨#[120]⟩ := by
  intro W
  go_enter Tryz.func108, Tryz.ntmps108
  go_wp2
  go_ret
  exact ⟨rfl, rfl⟩
set_option maxRecDepth 100000 in
theorem nokey_list : NoKey ⟨#[108, 105, 115, 116]⟩ := by
  intro W
  go_enter Tryz.func108, Tryz.ntmps108
  go_wp2
  go_ret
  exact ⟨rfl, rfl⟩
theorem clone_any (s : ByteArray) (hs : s.size ≤ 1000) (w : World) : Calls Tryz.prog 109 #[.string s] w fun e w' => e = .returned (.string s) ∧ Below w.heap.size w w' := by
  go_enter Tryz.func109, Tryz.ntmps109
  go_wp2_with (go_at_call 128; ((with_reducible refine (Tryz.stringslite_Clone s _ (by omega)).mono ?_); rintro e w1 ⟨rfl, hb⟩))
  go_ret
  exact ⟨rfl, hb⟩
/-- A token, by value. -/
abbrev tok (k : Int) (s : ByteArray) (n at_ : Int) : Value := .agg #[.int .i64 k, .string s, .int .i64 n, .int .i64 at_]
theorem extract_all (s : ByteArray) : s.extract 0 s.size = s := by simp
set_option maxRecDepth 100000 in
theorem firstName_any (s : ByteArray) (kind : Int) (hs : s.size ≤ 30) (h : ∀ i (hi : i < s.size), nameB (s[i].toNat : Int) = true) (hk : NoKey s) (w : World) :
    Calls Tryz.prog 77 #[.string s, .int .i64 kind] w fun e w' => e = .returned (.tuple #[tok kind s 0 0, .int .i64 s.size]) ∧ Below w.heap.size w w' := by
  have HC := Lib.hid (fun W => count_name s (by omega) h W)
  unfold NoKey at hk
  have HK := Lib.hid hk
  have d30 : decide ((30 : Int) < (s.size : Int)) = false := by simp; omega
  have HL := Lib.hid (fun W => clone_any s (by omega) W)
  have hex := extract_all s
  clear h hk
  go_enter Tryz.func77, Tryz.ntmps77
  go_wp2_with (first
    | (go_at_call 75; ((with_reducible refine (HC.out _).mono ?_); rintro e w1 ⟨rfl, rfl⟩))
    | (go_at_call 108; ((with_reducible refine (HK.out _).mono ?_); rintro e w1 ⟨rfl, rfl⟩))
    | (go_at_call 109; ((with_reducible refine (HL.out _).mono ?_); rintro e w2 ⟨rfl, hb⟩; obtain ⟨hc, hf⟩ := bcell hb; have z2 := hb.size; rw [World.size_alloc] at z2; have y2 : w.heap.size < w2.heap.size := (by omega))))
  have hB : Below w.heap.size w w2 := (below_alloc w _).trans (hb.mono (by simp))
  have k0 := (hb_below (hb_new w (.cells #[.int .i64 0, .string ⟨#[]⟩, .int .i64 0, .int .i64 0] 67)) hb (by simp))
  have r0 := hb_at k0 0 rfl
  have r1 := hb_at k0 1 rfl
  have r2 := hb_at k0 2 rfl
  have r3 := hb_at k0 3 rfl
  exact bodyPost_ret (v := .tuple #[tok kind s 0 0, .int .i64 s.size]) (by simp [results, Tryz.results77, go_sem, r0, r1, r2, r3]) rfl ⟨rfl, (((hB.setCell (by simp) _).setCell (by simp) _).setCell (by simp) _).setCell (by simp) _⟩
set_option maxRecDepth 100000 in
/-- A text that begins with a small letter, and is a name. -/
theorem first_name (s : ByteArray) (c : UInt8) (hs : s.size ≤ 30) (h0 : s.data.toList.head? = some c) (hc : smallB (c.toNat : Int) = true) (h : ∀ i (hi : i < s.size), nameB (s[i].toNat : Int) = true) (hk : NoKey s) (w : World) :
    Calls Tryz.prog 65 #[.string s] w fun e w' => e = .returned (.tuple #[tok 1 s 0 0, .int .i64 s.size]) ∧ Below w.heap.size w w' := by
  have HF := Lib.hid (fun W => firstName_any s 1 hs h hk W)
  have HS := Lib.hid (fun W => small_any.lit hc W)
  have hpos : 0 < s.size := by
    cases e : s.data.toList with
    | nil => rw [e] at h0; cases h0
    | cons a l =>
      have : s.size = s.data.toList.length := by simp
      rw [this, e]; simp
  have hb0 : s[0] = c := by
    have h1 : s.data.toList[0]? = some c := by rw [← List.head?_eq_getElem?]; exact h0
    have h2 : s.data.toList[0]? = some s[0] := List.getElem?_eq_getElem (by simpa using hpos)
    rw [h2] at h1
    exact Option.some.inj h1
  have hne : s.toList ≠ [] := by
    rw [ByteArray.toList_eq]
    intro e
    rw [e] at h0
    cases h0
  have hne1 : ¬ s.toList = [] := hne
  have hne2 : s.toList.isEmpty = false := by
    cases e : s.toList with
    | nil => exact absurd e hne
    | cons a l => rfl
  clear h0 hne hc h hk
  go_enter Tryz.func65, Tryz.ntmps65
  go_wp2_with (first
    | (go_at_call 74; ((with_reducible refine (HS.out _).mono ?_); rintro e w1 ⟨rfl, rfl⟩))
    | (go_at_call 77; ((with_reducible refine (HF.out _).mono ?_); rintro e w2 ⟨rfl, hb⟩; obtain ⟨hc, hf⟩ := bcell hb; have z2 := hb.size; rw [World.size_alloc] at z2; have y2 : w.heap.size < w2.heap.size := (by omega))))
  have hB : Below w.heap.size w w2 := (below_alloc w _).trans (hb.mono (by simp))
  have k0 := (hb_below (hb_new w (.cells #[.int .i64 0, .string ⟨#[]⟩, .int .i64 0, .int .i64 0] 67)) hb (by simp))
  have r0 := hb_at k0 0 rfl
  have r1 := hb_at k0 1 rfl
  have r2 := hb_at k0 2 rfl
  have r3 := hb_at k0 3 rfl
  exact bodyPost_ret (v := .tuple #[tok 1 s 0 0, .int .i64 s.size]) (by simp [results, Tryz.results65, go_sem, r0, r1, r2, r3]) rfl ⟨rfl, (((hB.setCell (by simp) _).setCell (by simp) _).setCell (by simp) _).setCell (by simp) _⟩
theorem trim_var (c : UInt8) : (⟨(Lib.trimPrefix (⟨#[39, c]⟩ : ByteArray).data.toList (⟨#[39]⟩ : ByteArray).data.toList).toArray⟩ : ByteArray) = ⟨#[c]⟩ := rfl
theorem small_var {c : UInt8} (hc : smallB (c.toNat : Int) = true) : varB (c.toNat : Int) = true := by
  have h : (c.toNat : Int) ≠ 39 := by
    intro e
    rw [e] at hc
    cases hc
  simp [varB, nameB, hc, h]
theorem one_at (c : UInt8) (i : Nat) (hi : i < (⟨#[c]⟩ : ByteArray).size) : (⟨#[c]⟩ : ByteArray)[i] = c := by
  have h1 : (⟨#[c]⟩ : ByteArray).size = 1 := rfl
  obtain rfl : i = 0 := by omega
  rfl
set_option maxRecDepth 100000 in
/-- A variable of one letter. -/
theorem firstVar_one (c : UInt8) (hc : smallB (c.toNat : Int) = true) (w : World) :
    Calls Tryz.prog 79 #[.string ⟨#[39, c]⟩] w fun e w' => e = .returned (.tuple #[tok 3 ⟨#[c]⟩ 0 0, .int .i64 2]) ∧ Below w.heap.size w w' := by
  have HT := Lib.hid (fun W => (Tryz.strings_TrimPrefix ⟨#[39, c]⟩ ⟨#[39]⟩ W).mono fun e w' (h : _ ∧ _) => (⟨by rw [h.1, trim_var], h.2.symm⟩ : e = .returned (.string ⟨#[c]⟩) ∧ W = w'))
  have HC := Lib.hid (fun W => count_var ⟨#[c]⟩ (by show 1 ≤ 1000; omega) (fun i hi => by rw [one_at c i hi]; exact small_var hc) W)
  have HS : RowKit.Hid (∀ W, Calls Tryz.prog 74 #[.int .u8 (((⟨#[c]⟩ : ByteArray)[0]'(by show 0 < 1; omega)).toNat : Int)] W fun e w' => e = .returned (.bool true) ∧ W = w') := Lib.hid (fun W => small_any.lit hc W)
  have HL := Lib.hid (fun W => clone_any ⟨#[c]⟩ (by show 1 ≤ 1000; omega) W)
  have hex : (⟨#[c]⟩ : ByteArray).extract 0 1 = ⟨#[c]⟩ := extract_all ⟨#[c]⟩
  clear hc
  go_enter Tryz.func79, Tryz.ntmps79
  go_wp2_with (first
    | (go_at_call 110; ((with_reducible refine (HT.out _).mono ?_); rintro e w1 ⟨rfl, rfl⟩))
    | (go_at_call 75; ((with_reducible refine (HC.out _).mono ?_); rintro e w1 ⟨rfl, rfl⟩))
    | (go_at_call 74; ((with_reducible refine (HS.out _).mono ?_); rintro e w1 ⟨rfl, rfl⟩))
    | (go_at_call 109; ((with_reducible refine (HL.out _).mono ?_); rintro e w2 ⟨rfl, hb⟩; obtain ⟨hc, hf⟩ := bcell hb; have z2 := hb.size; rw [World.size_alloc] at z2; have y2 : w.heap.size < w2.heap.size := (by omega))))
  have hB : Below w.heap.size w w2 := (below_alloc w _).trans (hb.mono (by simp))
  have k0 := (hb_below (hb_new w (.cells #[.int .i64 0, .string ⟨#[]⟩, .int .i64 0, .int .i64 0] 67)) hb (by simp))
  have r0 := hb_at k0 0 rfl
  have r1 := hb_at k0 1 rfl
  have r2 := hb_at k0 2 rfl
  have r3 := hb_at k0 3 rfl
  exact bodyPost_ret (v := .tuple #[tok 3 ⟨#[c]⟩ 0 0, .int .i64 2]) (by simp [results, Tryz.results79, go_sem, r0, r1, r2, r3]) rfl ⟨rfl, (((hB.setCell (by simp) _).setCell (by simp) _).setCell (by simp) _).setCell (by simp) _⟩
set_option maxRecDepth 100000 in
theorem first_var (c : UInt8) (hc : smallB (c.toNat : Int) = true) (w : World) :
    Calls Tryz.prog 65 #[.string ⟨#[39, c]⟩] w fun e w' => e = .returned (.tuple #[tok 3 ⟨#[c]⟩ 0 0, .int .i64 2]) ∧ Below w.heap.size w w' := by
  have HF := Lib.hid (fun W => firstVar_one c hc W)
  have hx : smallB (((⟨#[39, c]⟩ : ByteArray)[0]'(by show 0 < 2; omega)).toNat : Int) = false := rfl
  have hy : greatB (((⟨#[39, c]⟩ : ByteArray)[0]'(by show 0 < 2; omega)).toNat : Int) = false := rfl
  have HS := Lib.hid (fun W => small_any.lit hx W)
  have HG := Lib.hid (fun W => great_any.lit hy W)
  have hz : ((((⟨#[39, c]⟩ : ByteArray)[0]'(by show 0 < 2; omega)).toNat : Int) == 95) = false := rfl
  clear hc hx hy
  go_enter Tryz.func65, Tryz.ntmps65
  go_wp2_with (first
    | (go_at_call 74; ((with_reducible refine (HS.out _).mono ?_); rintro e w1 ⟨rfl, rfl⟩))
    | (go_at_call 78; ((with_reducible refine (HG.out _).mono ?_); rintro e w1 ⟨rfl, rfl⟩))
    | (go_at_call 79; ((with_reducible refine (HF.out _).mono ?_); rintro e w2 ⟨rfl, hb⟩; obtain ⟨hc, hf⟩ := bcell hb; have z2 := hb.size; rw [World.size_alloc] at z2; have y2 : w.heap.size < w2.heap.size := (by omega))))
  have hB : Below w.heap.size w w2 := (below_alloc w _).trans (hb.mono (by simp))
  have k0 := (hb_below (hb_new w (.cells #[.int .i64 0, .string ⟨#[]⟩, .int .i64 0, .int .i64 0] 67)) hb (by simp))
  have r0 := hb_at k0 0 rfl
  have r1 := hb_at k0 1 rfl
  have r2 := hb_at k0 2 rfl
  have r3 := hb_at k0 3 rfl
  exact bodyPost_ret (v := .tuple #[tok 3 ⟨#[c]⟩ 0 0, .int .i64 2]) (by simp [results, Tryz.results65, go_sem, r0, r1, r2, r3]) rfl ⟨rfl, (((hB.setCell (by simp) _).setCell (by simp) _).setCell (by simp) _).setCell (by simp) _⟩
theorem tell_text (k : Int) (s : ByteArray) (n a : Int) (h3 : k ≠ 3) (h4 : k ≠ 4) (h5 : k ≠ 5) (w : World) : Calls Tryz.prog 64 #[tok k s n a] w fun e w' => e = .returned (.string s) ∧ Below w.heap.size w w' := by
  go_enter Tryz.func64, Tryz.ntmps64
  go_wp2
  go_ret
  exact ⟨rfl, below_alloc w _⟩
theorem tell_var (c : UInt8) (n a : Int) (w : World) : Calls Tryz.prog 64 #[tok 3 ⟨#[c]⟩ n a] w fun e w' => e = .returned (.string ⟨#[39, c]⟩) ∧ Below w.heap.size w w' := by
  go_enter Tryz.func64, Tryz.ntmps64
  go_wp2
  go_ret
  exact ⟨rfl, below_alloc w _⟩
set_option maxRecDepth 100000 in
/-- A token that is told as a text, and read from that as it was, is right. -/
theorem right_of (k : Int) (s u : ByteArray) (hu : 0 < u.size) (h63 : u.size ≤ 1000)
    (ht : ∀ W, Calls Tryz.prog 64 #[tok k s 0 0] W fun e w' => e = .returned (.string u) ∧ Below W.heap.size W w')
    (hf : ∀ W, Calls Tryz.prog 65 #[.string u] W fun e w' => e = .returned (.tuple #[tok k s 0 0, .int .i64 u.size]) ∧ Below W.heap.size W w') (w : World) :
    Calls Tryz.prog 58 #[tok k s 0 0] w fun e w' => e = .returned (.bool true) ∧ Below w.heap.size w w' := by
  have HT := Lib.hid ht
  have HF := Lib.hid hf
  have d0 : decide ((0 : Int) < (u.size : Int)) = true := by simpa using hu
  clear ht hf
  go_enter Tryz.func58, Tryz.ntmps58
  go_wp2_with (first
    | (go_at_call 64; ((with_reducible refine (HT.out _).mono ?_); rintro e w1 ⟨rfl, hb⟩; have HB1 := Lib.hid hb; obtain ⟨hc, hf⟩ := bcell hb; have z1 := hb.size; rw [World.size_alloc] at z1; have y1 : w.heap.size < w1.heap.size := (by omega)))
    | (go_at_call 65; ((with_reducible refine (HF.out _).mono ?_); rintro e w2 ⟨rfl, hb⟩; have HB2 := Lib.hid hb; obtain ⟨hc2, hf2⟩ := bcell hb; have z2 := hb.size; have y2 : w.heap.size < w2.heap.size := (by omega))))
  go_ret
  have hB1 := (below_alloc w (.cells #[.int .i64 k, .string s, .int .i64 0, .int .i64 0] 67)).trans (HB1.out.mono (by simp))
  have hB2 := hB1.trans (HB2.out.mono hB1.size)
  exact ⟨rfl, (hB2.setCell (by simp) _).alloc (by simpa using hB2.size) _⟩
theorem isToken_of (k : Int) (s : ByteArray) (hr : ∀ W, Calls Tryz.prog 58 #[tok k s 0 0] W fun e w' => e = .returned (.bool true) ∧ Below W.heap.size W w') (w : World) :
    Calls Tryz.prog 57 #[.int .i64 k, .string s] w fun e w' => e = .returned (.bool true) ∧ Below w.heap.size w w' := by
  have HR := Lib.hid hr
  clear hr
  go_enter Tryz.func57, Tryz.ntmps57
  go_wp2_with (go_at_call 58; ((with_reducible refine (HR.out _).mono ?_); rintro e w1 ⟨rfl, hb⟩))
  go_ret
  exact ⟨rfl, hb⟩
/-- A name's token is right, as the program finds it. -/
def TokenOk (k : Int) (s : ByteArray) : Prop := ∀ W : World, Calls Tryz.prog 57 #[.int .i64 k, .string s] W fun e w' => e = .returned (.bool true) ∧ Below W.heap.size W w'
theorem lower_ok (s : ByteArray) (c : UInt8) (hs : s.size ≤ 30) (h0 : s.data.toList.head? = some c) (hc : smallB (c.toNat : Int) = true) (h : ∀ i (hi : i < s.size), nameB (s[i].toNat : Int) = true) (hk : NoKey s) : TokenOk 1 s := by
  have hpos : 0 < s.size := by
    cases e : s.data.toList with
    | nil => rw [e] at h0; cases h0
    | cons a l =>
      have : s.size = s.data.toList.length := by simp
      rw [this, e]; simp
  exact isToken_of 1 s (right_of 1 s s hpos (by omega) (fun W => tell_text 1 s 0 0 (by decide) (by decide) (by decide) W) (fun W => first_name s c hs h0 hc h hk W))
theorem var_ok (c : UInt8) (hc : smallB (c.toNat : Int) = true) : TokenOk 3 ⟨#[c]⟩ :=
  isToken_of 3 _ (right_of 3 ⟨#[c]⟩ ⟨#[39, c]⟩ (by show 0 < 2; omega) (by show 2 ≤ 1000; omega) (fun W => tell_var c 0 0 W) (fun W => first_var c hc W))
theorem ok_f : TokenOk 1 ⟨#[102]⟩ := lower_ok _ 102 (by decide) rfl rfl (fun i hi => by have h1 : (⟨#[102]⟩ : ByteArray).size = 1 := rfl; obtain rfl : i = 0 := (by omega); rfl) nokey_f
theorem ok_x : TokenOk 1 ⟨#[120]⟩ := lower_ok _ 120 (by decide) rfl rfl (fun i hi => by have h1 : (⟨#[120]⟩ : ByteArray).size = 1 := rfl; obtain rfl : i = 0 := (by omega); rfl) nokey_x
theorem ok_list : TokenOk 1 ⟨#[108, 105, 115, 116]⟩ := lower_ok _ 108 (by decide) rfl rfl (fun i hi => by have h1 : (⟨#[108, 105, 115, 116]⟩ : ByteArray).size = 4 := rfl; have h2 : i = 0 ∨ i = 1 ∨ i = 2 ∨ i = 3 := (by omega); rcases h2 with rfl | rfl | rfl | rfl <;> rfl) nokey_list
theorem ok_a : TokenOk 3 ⟨#[97]⟩ := var_ok 97 rfl
theorem ok_b : TokenOk 3 ⟨#[98]⟩ := var_ok 98 rfl
end Go.Proofs.YthcpmdgdbceeiaaGreatDoor
