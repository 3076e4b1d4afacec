/- Texts in a row: S1 T6 T7. -/
import Derived.Shelf.SlGeneric
import Derived.Shelf.LaysM
import Derived.Shelf.Strconv.Clone
import Derived.Shelf.Strings.Prefix
import Derived.Test.YthcpmdgdbceeiaaGreatDoorProg
import Derived.Test.YthcpmdgdbceeiaaGreatDoorZ2
import Derived.Outline
/-
  DERIVED: THE SHELF's CONTRACTS AT THIS DUMP, IN PLAIN WORDS (tools/lay-plain.mjs out of 'YthcpmdgdbceeiaaGreatDoorS1.lean', which tools/lay-shelf.mjs wrote): THE SAME DECLARATIONS UNDER THE SAME NAMES: 'import', 'namespace', 'open', 'def', 'theorem' AND NOTHING ELSE: no command of the shelf's: FOR A HAND-IN. Each laying: the table of numbers ('.._ren') and one theorem, a field a fact of the dump's own or the kernel's comparison; each contract: ONE APPLICATION.
-/
namespace Go.Proofs
open Go.Shelf
def Tryz.laysM316_ren : Go.Shelf.Ren := ⟨fun | 316 => 128 | n => n, fun | 9 => 9 | 3 => 3 | 4 => 4 | 37 => 97 | 0 => 0 | 127 => 124 | 5 => 5 | n => n, fun | n => n⟩
theorem Tryz.laysM316 : Go.Proofs.LaysM.n316 Tryz.prog Tryz.laysM316_ren := {
  mixed := by kernel_rfl
  f316 := Tryz.func128.trans (congrArg some (by kernel_rfl))
  t0 := Tryz.underlying0
  a0 := Tryz.isAgg0
  z0 := Tryz.sizeOf0
  v0 := Tryz.zeroValue0
  t3 := Tryz.underlying3
  a3 := Tryz.isAgg3
  z3 := Tryz.sizeOf3
  v3 := Tryz.zeroValue3
  t4 := Tryz.underlying4
  a4 := Tryz.isAgg4
  z4 := Tryz.sizeOf4
  v4 := Tryz.zeroValue4
  t9 := Tryz.underlying9
  a9 := Tryz.isAgg9
  z9 := Tryz.sizeOf9
  v9 := Tryz.zeroValue9
  t37 := Tryz.underlying97
  a37 := Tryz.isAgg97
  z37 := Tryz.sizeOf97
  v37 := Tryz.zeroValue97
  t127 := Tryz.underlying124
  a127 := Tryz.isAgg124
  z127 := Tryz.sizeOf124
  v127 := Tryz.zeroValue124
  t5 := Tryz.underlying5
  a5 := Tryz.isAgg5
  z5 := Tryz.sizeOf5
  v5 := Tryz.zeroValue5
  i0 := by kernel_rfl
  i3 := by kernel_rfl
  i4 := by kernel_rfl
  i5 := by kernel_rfl
  i9 := by kernel_rfl
  i37 := by kernel_rfl
  i127 := by kernel_rfl }
open Go.RowKit in
/-- internal/stringslite.Clone (what strings.Clone calls): "Clone returns a fresh copy of s.": THE SAME BYTES. Of what was there nothing has turned (a new row is laid, and frozen, where s is not empty). (LAID: no walk: one application.) -/
theorem Tryz.stringslite_Clone (s : ByteArray) (w : World) (hlim : s.size ≤ 281474976710656) :
    Calls Tryz.prog 128 #[.string s] w fun e w' => e = .returned (.string s) ∧ Below w.heap.size w w' := Any.stringslite_Clone Tryz.laysM316 s w hlim
def Tryz.lays99_ren : Go.Shelf.Ren := ⟨fun | 99 => 82 | 206 => 116 | n => n, fun | 9 => 9 | 4 => 4 | 3 => 3 | n => n, fun | n => n⟩
theorem Tryz.lays99 : Go.Proofs.Lays.n99 Tryz.prog Tryz.lays99_ren := {
  mixed := by kernel_rfl
  f99 := Tryz.func82.trans (congrArg some (by kernel_rfl))
  f206 := Tryz.func116.trans (congrArg some (by kernel_rfl))
  t3 := Tryz.underlying3
  a3 := Tryz.isAgg3
  z3 := Tryz.sizeOf3
  v3 := Tryz.zeroValue3
  t4 := Tryz.underlying4
  a4 := Tryz.isAgg4
  z4 := Tryz.sizeOf4
  v4 := Tryz.zeroValue4
  t9 := Tryz.underlying9
  a9 := Tryz.isAgg9
  z9 := Tryz.sizeOf9
  v9 := Tryz.zeroValue9 }
open Go.RowKit Go.Lib in
/-- strings.HasPrefix: "HasPrefix reports whether the string s begins with prefix.": IT RETURNS 'Lib.hasPrefix s prefix'; the world is as it was. (LAID: no walk: one application.) -/
theorem Tryz.strings_HasPrefix (s p : ByteArray) (w : World) :
    Calls Tryz.prog 82 #[.string s, .string p] w fun e w' => e = .returned (.bool (Lib.hasPrefix s.data.toList p.data.toList)) ∧ w' = w := Any.strings_HasPrefix Tryz.lays99 s p w
def Tryz.lays101_ren : Go.Shelf.Ren := ⟨fun | 101 => 110 | 208 => 129 | 206 => 116 | n => n, fun | 9 => 9 | 4 => 4 | 3 => 3 | n => n, fun | n => n⟩
theorem Tryz.lays101 : Go.Proofs.Lays.n101 Tryz.prog Tryz.lays101_ren := {
  mixed := by kernel_rfl
  f101 := Tryz.func110.trans (congrArg some (by kernel_rfl))
  f206 := Tryz.func116.trans (congrArg some (by kernel_rfl))
  f208 := Tryz.func129.trans (congrArg some (by kernel_rfl))
  t3 := Tryz.underlying3
  a3 := Tryz.isAgg3
  z3 := Tryz.sizeOf3
  v3 := Tryz.zeroValue3
  t4 := Tryz.underlying4
  a4 := Tryz.isAgg4
  z4 := Tryz.sizeOf4
  v4 := Tryz.zeroValue4
  t9 := Tryz.underlying9
  a9 := Tryz.isAgg9
  z9 := Tryz.sizeOf9
  v9 := Tryz.zeroValue9 }
open Go.RowKit Go.Lib in
/-- strings.TrimPrefix: "TrimPrefix returns s without the provided leading prefix string. If s doesn't start with prefix, s is returned unchanged.": IT RETURNS 'Lib.trimPrefix s prefix'; the world is as it was. (LAID: no walk: one application.) -/
theorem Tryz.strings_TrimPrefix (s p : ByteArray) (w : World) :
    Calls Tryz.prog 110 #[.string s, .string p] w fun e w' => e = .returned (.string ⟨(Lib.trimPrefix s.data.toList p.data.toList).toArray⟩) ∧ w' = w := Any.strings_TrimPrefix Tryz.lays101 s p w
end Go.Proofs
/- Names as tokens. -/
namespace Go.Proofs.YthcpmdgdbceeiaaGreatDoor
open Go.RowKit
/-- The text is no keyword, as the program finds it. -/
def NoKey (s : ByteArray) : Prop := ∀ W : World, Calls Tryz.prog 108 #[.string s] W fun e w' => e = .returned (.bool false) ∧ W = w'
set_option maxRecDepth 100000 in
theorem nokey_f : NoKey ⟨#[102]⟩ := by
  intro W
  go_enter Tryz.func108, Tryz.ntmps108
  go_wp2
  go_ret
  exact ⟨rfl, rfl⟩
set_option maxRecDepth 100000 in
theorem nokey_x : NoKey ⟨#[120]⟩ := by
  intro W
  go_enter Tryz.func108, Tryz.ntmps108
  go_wp2
  go_ret
  exact ⟨rfl, rfl⟩
set_option maxRecDepth 100000 in
theorem nokey_list : NoKey ⟨#[108, 105, 115, 116]⟩ := by
  intro W
  go_enter Tryz.func108, Tryz.ntmps108
  go_wp2
  go_ret
  exact ⟨rfl, rfl⟩
theorem clone_any (s : ByteArray) (hs : s.size ≤ 1000) (w : World) : Calls Tryz.prog 109 #[.string s] w fun e w' => e = .returned (.string s) ∧ Below w.heap.size w w' := by
  go_enter Tryz.func109, Tryz.ntmps109
  go_wp2_with (go_at_call 128; ((with_reducible refine (Tryz.stringslite_Clone s _ (by omega)).mono ?_); rintro e w1 ⟨rfl, hb⟩))
  go_ret
  exact ⟨rfl, hb⟩
/-- A token, by value. -/
abbrev tok (k : Int) (s : ByteArray) (n at_ : Int) : Value := .agg #[.int .i64 k, .string s, .int .i64 n, .int .i64 at_]
theorem extract_all (s : ByteArray) : s.extract 0 s.size = s := by simp
set_option maxRecDepth 100000 in
theorem firstName_any (s : ByteArray) (kind : Int) (hs : s.size ≤ 30) (h : ∀ i (hi : i < s.size), nameB (s[i].toNat : Int) = true) (hk : NoKey s) (w : World) :
    Calls Tryz.prog 77 #[.string s, .int .i64 kind] w fun e w' => e = .returned (.tuple #[tok kind s 0 0, .int .i64 s.size]) ∧ Below w.heap.size w w' := by
  have HC := Lib.hid (fun W => count_name s (by omega) h W)
  unfold NoKey at hk
  have HK := Lib.hid hk
  have d30 : decide ((30 : Int) < (s.size : Int)) = false := by simp; omega
  have HL := Lib.hid (fun W => clone_any s (by omega) W)
  have hex := extract_all s
  clear h hk
  go_enter Tryz.func77, Tryz.ntmps77
  go_wp2_with (first
    | (go_at_call 75; ((with_reducible refine (HC.out _).mono ?_); rintro e w1 ⟨rfl, rfl⟩))
    | (go_at_call 108; ((with_reducible refine (HK.out _).mono ?_); rintro e w1 ⟨rfl, rfl⟩))
    | (go_at_call 109; ((with_reducible refine (HL.out _).mono ?_); rintro e w2 ⟨rfl, hb⟩; obtain ⟨hc, hf⟩ := bcell hb; have z2 := hb.size; rw [World.size_alloc] at z2; have y2 : w.heap.size < w2.heap.size := (by omega))))
  have hB : Below w.heap.size w w2 := (below_alloc w _).trans (hb.mono (by simp))
  have k0 := (hb_below (hb_new w (.cells #[.int .i64 0, .string ⟨#[]⟩, .int .i64 0, .int .i64 0] 67)) hb (by simp))
  have r0 := hb_at k0 0 rfl
  have r1 := hb_at k0 1 rfl
  have r2 := hb_at k0 2 rfl
  have r3 := hb_at k0 3 rfl
  exact bodyPost_ret (v := .tuple #[tok kind s 0 0, .int .i64 s.size]) (by simp [results, Tryz.results77, go_sem, r0, r1, r2, r3]) rfl ⟨rfl, (((hB.setCell (by simp) _).setCell (by simp) _).setCell (by simp) _).setCell (by simp) _⟩
set_option maxRecDepth 100000 in
/-- A text that begins with a small letter, and is a name. -/
theorem first_name (s : ByteArray) (c : UInt8) (hs : s.size ≤ 30) (h0 : s.data.toList.head? = some c) (hc : smallB (c.toNat : Int) = true) (h : ∀ i (hi : i < s.size), nameB (s[i].toNat : Int) = true) (hk : NoKey s) (w : World) :
    Calls Tryz.prog 65 #[.string s] w fun e w' => e = .returned (.tuple #[tok 1 s 0 0, .int .i64 s.size]) ∧ Below w.heap.size w w' := by
  have HF := Lib.hid (fun W => firstName_any s 1 hs h hk W)
  have HS := Lib.hid (fun W => small_any.lit hc W)
  have hpos : 0 < s.size := by
    cases e : s.data.toList with
    | nil => rw [e] at h0; cases h0
    | cons a l =>
      have : s.size = s.data.toList.length := by simp
      rw [this, e]; simp
  have hb0 : s[0] = c := by
    have h1 : s.data.toList[0]? = some c := by rw [← List.head?_eq_getElem?]; exact h0
    have h2 : s.data.toList[0]? = some s[0] := List.getElem?_eq_getElem (by simpa using hpos)
    rw [h2] at h1
    exact Option.some.inj h1
  have hne : s.toList ≠ [] := by
    rw [ByteArray.toList_eq]
    intro e
    rw [e] at h0
    cases h0
  have hne1 : ¬ s.toList = [] := hne
  have hne2 : s.toList.isEmpty = false := by
    cases e : s.toList with
    | nil => exact absurd e hne
    | cons a l => rfl
  clear h0 hne hc h hk
  go_enter Tryz.func65, Tryz.ntmps65
  go_wp2_with (first
    | (go_at_call 74; ((with_reducible refine (HS.out _).mono ?_); rintro e w1 ⟨rfl, rfl⟩))
    | (go_at_call 77; ((with_reducible refine (HF.out _).mono ?_); rintro e w2 ⟨rfl, hb⟩; obtain ⟨hc, hf⟩ := bcell hb; have z2 := hb.size; rw [World.size_alloc] at z2; have y2 : w.heap.size < w2.heap.size := (by omega))))
  have hB : Below w.heap.size w w2 := (below_alloc w _).trans (hb.mono (by simp))
  have k0 := (hb_below (hb_new w (.cells #[.int .i64 0, .string ⟨#[]⟩, .int .i64 0, .int .i64 0] 67)) hb (by simp))
  have r0 := hb_at k0 0 rfl
  have r1 := hb_at k0 1 rfl
  have r2 := hb_at k0 2 rfl
  have r3 := hb_at k0 3 rfl
  exact bodyPost_ret (v := .tuple #[tok 1 s 0 0, .int .i64 s.size]) (by simp [results, Tryz.results65, go_sem, r0, r1, r2, r3]) rfl ⟨rfl, (((hB.setCell (by simp) _).setCell (by simp) _).setCell (by simp) _).setCell (by simp) _⟩
theorem trim_var (c : UInt8) : (⟨(Lib.trimPrefix (⟨#[39, c]⟩ : ByteArray).data.toList (⟨#[39]⟩ : ByteArray).data.toList).toArray⟩ : ByteArray) = ⟨#[c]⟩ := rfl
theorem small_var {c : UInt8} (hc : smallB (c.toNat : Int) = true) : varB (c.toNat : Int) = true := by
  have h : (c.toNat : Int) ≠ 39 := by
    intro e
    rw [e] at hc
    cases hc
  simp [varB, nameB, hc, h]
theorem one_at (c : UInt8) (i : Nat) (hi : i < (⟨#[c]⟩ : ByteArray).size) : (⟨#[c]⟩ : ByteArray)[i] = c := by
  have h1 : (⟨#[c]⟩ : ByteArray).size = 1 := rfl
  obtain rfl : i = 0 := by omega
  rfl
set_option maxRecDepth 100000 in
/-- A variable of one letter. -/
theorem firstVar_one (c : UInt8) (hc : smallB (c.toNat : Int) = true) (w : World) :
    Calls Tryz.prog 79 #[.string ⟨#[39, c]⟩] w fun e w' => e = .returned (.tuple #[tok 3 ⟨#[c]⟩ 0 0, .int .i64 2]) ∧ Below w.heap.size w w' := by
  have HT := Lib.hid (fun W => (Tryz.strings_TrimPrefix ⟨#[39, c]⟩ ⟨#[39]⟩ W).mono fun e w' (h : _ ∧ _) => (⟨by rw [h.1, trim_var], h.2.symm⟩ : e = .returned (.string ⟨#[c]⟩) ∧ W = w'))
  have HC := Lib.hid (fun W => count_var ⟨#[c]⟩ (by show 1 ≤ 1000; omega) (fun i hi => by rw [one_at c i hi]; exact small_var hc) W)
  have HS : RowKit.Hid (∀ W, Calls Tryz.prog 74 #[.int .u8 (((⟨#[c]⟩ : ByteArray)[0]'(by show 0 < 1; omega)).toNat : Int)] W fun e w' => e = .returned (.bool true) ∧ W = w') := Lib.hid (fun W => small_any.lit hc W)
  have HL := Lib.hid (fun W => clone_any ⟨#[c]⟩ (by show 1 ≤ 1000; omega) W)
  have hex : (⟨#[c]⟩ : ByteArray).extract 0 1 = ⟨#[c]⟩ := extract_all ⟨#[c]⟩
  clear hc
  go_enter Tryz.func79, Tryz.ntmps79
  go_wp2_with (first
    | (go_at_call 110; ((with_reducible refine (HT.out _).mono ?_); rintro e w1 ⟨rfl, rfl⟩))
    | (go_at_call 75; ((with_reducible refine (HC.out _).mono ?_); rintro e w1 ⟨rfl, rfl⟩))
    | (go_at_call 74; ((with_reducible refine (HS.out _).mono ?_); rintro e w1 ⟨rfl, rfl⟩))
    | (go_at_call 109; ((with_reducible refine (HL.out _).mono ?_); rintro e w2 ⟨rfl, hb⟩; obtain ⟨hc, hf⟩ := bcell hb; have z2 := hb.size; rw [World.size_alloc] at z2; have y2 : w.heap.size < w2.heap.size := (by omega))))
  have hB : Below w.heap.size w w2 := (below_alloc w _).trans (hb.mono (by simp))
  have k0 := (hb_below (hb_new w (.cells #[.int .i64 0, .string ⟨#[]⟩, .int .i64 0, .int .i64 0] 67)) hb (by simp))
  have r0 := hb_at k0 0 rfl
  have r1 := hb_at k0 1 rfl
  have r2 := hb_at k0 2 rfl
  have r3 := hb_at k0 3 rfl
  exact bodyPost_ret (v := .tuple #[tok 3 ⟨#[c]⟩ 0 0, .int .i64 2]) (by simp [results, Tryz.results79, go_sem, r0, r1, r2, r3]) rfl ⟨rfl, (((hB.setCell (by simp) _).setCell (by simp) _).setCell (by simp) _).setCell (by simp) _⟩
set_option maxRecDepth 100000 in
theorem first_var (c : UInt8) (hc : smallB (c.toNat : Int) = true) (w : World) :
    Calls Tryz.prog 65 #[.string ⟨#[39, c]⟩] w fun e w' => e = .returned (.tuple #[tok 3 ⟨#[c]⟩ 0 0, .int .i64 2]) ∧ Below w.heap.size w w' := by
  have HF := Lib.hid (fun W => firstVar_one c hc W)
  have hx : smallB (((⟨#[39, c]⟩ : ByteArray)[0]'(by show 0 < 2; omega)).toNat : Int) = false := rfl
  have hy : greatB (((⟨#[39, c]⟩ : ByteArray)[0]'(by show 0 < 2; omega)).toNat : Int) = false := rfl
  have HS := Lib.hid (fun W => small_any.lit hx W)
  have HG := Lib.hid (fun W => great_any.lit hy W)
  have hz : ((((⟨#[39, c]⟩ : ByteArray)[0]'(by show 0 < 2; omega)).toNat : Int) == 95) = false := rfl
  clear hc hx hy
  go_enter Tryz.func65, Tryz.ntmps65
  go_wp2_with (first
    | (go_at_call 74; ((with_reducible refine (HS.out _).mono ?_); rintro e w1 ⟨rfl, rfl⟩))
    | (go_at_call 78; ((with_reducible refine (HG.out _).mono ?_); rintro e w1 ⟨rfl, rfl⟩))
    | (go_at_call 79; ((with_reducible refine (HF.out _).mono ?_); rintro e w2 ⟨rfl, hb⟩; obtain ⟨hc, hf⟩ := bcell hb; have z2 := hb.size; rw [World.size_alloc] at z2; have y2 : w.heap.size < w2.heap.size := (by omega))))
  have hB : Below w.heap.size w w2 := (below_alloc w _).trans (hb.mono (by simp))
  have k0 := (hb_below (hb_new w (.cells #[.int .i64 0, .string ⟨#[]⟩, .int .i64 0, .int .i64 0] 67)) hb (by simp))
  have r0 := hb_at k0 0 rfl
  have r1 := hb_at k0 1 rfl
  have r2 := hb_at k0 2 rfl
  have r3 := hb_at k0 3 rfl
  exact bodyPost_ret (v := .tuple #[tok 3 ⟨#[c]⟩ 0 0, .int .i64 2]) (by simp [results, Tryz.results65, go_sem, r0, r1, r2, r3]) rfl ⟨rfl, (((hB.setCell (by simp) _).setCell (by simp) _).setCell (by simp) _).setCell (by simp) _⟩
theorem tell_text (k : Int) (s : ByteArray) (n a : Int) (h3 : k ≠ 3) (h4 : k ≠ 4) (h5 : k ≠ 5) (w : World) : Calls Tryz.prog 64 #[tok k s n a] w fun e w' => e = .returned (.string s) ∧ Below w.heap.size w w' := by
  go_enter Tryz.func64, Tryz.ntmps64
  go_wp2
  go_ret
  exact ⟨rfl, below_alloc w _⟩
theorem tell_var (c : UInt8) (n a : Int) (w : World) : Calls Tryz.prog 64 #[tok 3 ⟨#[c]⟩ n a] w fun e w' => e = .returned (.string ⟨#[39, c]⟩) ∧ Below w.heap.size w w' := by
  go_enter Tryz.func64, Tryz.ntmps64
  go_wp2
  go_ret
  exact ⟨rfl, below_alloc w _⟩
set_option maxRecDepth 100000 in
/-- A token that is told as a text, and read from that as it was, is right. -/
theorem right_of (k : Int) (s u : ByteArray) (hu : 0 < u.size) (h63 : u.size ≤ 1000)
    (ht : ∀ W, Calls Tryz.prog 64 #[tok k s 0 0] W fun e w' => e = .returned (.string u) ∧ Below W.heap.size W w')
    (hf : ∀ W, Calls Tryz.prog 65 #[.string u] W fun e w' => e = .returned (.tuple #[tok k s 0 0, .int .i64 u.size]) ∧ Below W.heap.size W w') (w : World) :
    Calls Tryz.prog 58 #[tok k s 0 0] w fun e w' => e = .returned (.bool true) ∧ Below w.heap.size w w' := by
  have HT := Lib.hid ht
  have HF := Lib.hid hf
  have d0 : decide ((0 : Int) < (u.size : Int)) = true := by simpa using hu
  clear ht hf
  go_enter Tryz.func58, Tryz.ntmps58
  go_wp2_with (first
    | (go_at_call 64; ((with_reducible refine (HT.out _).mono ?_); rintro e w1 ⟨rfl, hb⟩; have HB1 := Lib.hid hb; obtain ⟨hc, hf⟩ := bcell hb; have z1 := hb.size; rw [World.size_alloc] at z1; have y1 : w.heap.size < w1.heap.size := (by omega)))
    | (go_at_call 65; ((with_reducible refine (HF.out _).mono ?_); rintro e w2 ⟨rfl, hb⟩; have HB2 := Lib.hid hb; obtain ⟨hc2, hf2⟩ := bcell hb; have z2 := hb.size; have y2 : w.heap.size < w2.heap.size := (by omega))))
  go_ret
  have hB1 := (below_alloc w (.cells #[.int .i64 k, .string s, .int .i64 0, .int .i64 0] 67)).trans (HB1.out.mono (by simp))
  have hB2 := hB1.trans (HB2.out.mono hB1.size)
  exact ⟨rfl, (hB2.setCell (by simp) _).alloc (by simpa using hB2.size) _⟩
theorem isToken_of (k : Int) (s : ByteArray) (hr : ∀ W, Calls Tryz.prog 58 #[tok k s 0 0] W fun e w' => e = .returned (.bool true) ∧ Below W.heap.size W w') (w : World) :
    Calls Tryz.prog 57 #[.int .i64 k, .string s] w fun e w' => e = .returned (.bool true) ∧ Below w.heap.size w w' := by
  have HR := Lib.hid hr
  clear hr
  go_enter Tryz.func57, Tryz.ntmps57
  go_wp2_with (go_at_call 58; ((with_reducible refine (HR.out _).mono ?_); rintro e w1 ⟨rfl, hb⟩))
  go_ret
  exact ⟨rfl, hb⟩
/-- A name's token is right, as the program finds it. -/
def TokenOk (k : Int) (s : ByteArray) : Prop := ∀ W : World, Calls Tryz.prog 57 #[.int .i64 k, .string s] W fun e w' => e = .returned (.bool true) ∧ Below W.heap.size W w'
theorem lower_ok (s : ByteArray) (c : UInt8) (hs : s.size ≤ 30) (h0 : s.data.toList.head? = some c) (hc : smallB (c.toNat : Int) = true) (h : ∀ i (hi : i < s.size), nameB (s[i].toNat : Int) = true) (hk : NoKey s) : TokenOk 1 s := by
  have hpos : 0 < s.size := by
    cases e : s.data.toList with
    | nil => rw [e] at h0; cases h0
    | cons a l =>
      have : s.size = s.data.toList.length := by simp
      rw [this, e]; simp
  exact isToken_of 1 s (right_of 1 s s hpos (by omega) (fun W => tell_text 1 s 0 0 (by decide) (by decide) (by decide) W) (fun W => first_name s c hs h0 hc h hk W))
theorem var_ok (c : UInt8) (hc : smallB (c.toNat : Int) = true) : TokenOk 3 ⟨#[c]⟩ :=
  isToken_of 3 _ (right_of 3 ⟨#[c]⟩ ⟨#[39, c]⟩ (by show 0 < 2; omega) (by show 2 ≤ 1000; omega) (fun W => tell_var c 0 0 W) (fun W => first_var c hc W))
theorem ok_f : TokenOk 1 ⟨#[102]⟩ := lower_ok _ 102 (by decide) rfl rfl (fun i hi => by have h1 : (⟨#[102]⟩ : ByteArray).size = 1 := rfl; obtain rfl : i = 0 := (by omega); rfl) nokey_f
theorem ok_x : TokenOk 1 ⟨#[120]⟩ := lower_ok _ 120 (by decide) rfl rfl (fun i hi => by have h1 : (⟨#[120]⟩ : ByteArray).size = 1 := rfl; obtain rfl : i = 0 := (by omega); rfl) nokey_x
theorem ok_list : TokenOk 1 ⟨#[108, 105, 115, 116]⟩ := lower_ok _ 108 (by decide) rfl rfl (fun i hi => by have h1 : (⟨#[108, 105, 115, 116]⟩ : ByteArray).size = 4 := rfl; have h2 : i = 0 ∨ i = 1 ∨ i = 2 ∨ i = 3 := (by omega); rcases h2 with rfl | rfl | rfl | rfl <;> rfl) nokey_list
theorem ok_a : TokenOk 3 ⟨#[97]⟩ := var_ok 97 rfl
theorem ok_b : TokenOk 3 ⟨#[98]⟩ := var_ok 98 rfl
end Go.Proofs.YthcpmdgdbceeiaaGreatDoor
/- Is a name as it should be? Are all Kids? -/
namespace Go.Proofs.YthcpmdgdbceeiaaGreatDoor
open Go.RowKit
/-- A call that answers true. -/
def Yes (w : World) (e : Ending) (w' : World) : Prop := e = .returned (.bool true) ∧ Below w.heap.size w w'
theorem qualified_ok (kind k : Int) (n : ByteArray) (s : Value) (h : TokenOk kind n) (hs : ∃ q l c, s = .slice q l c) (w : World) : Calls Tryz.prog 31 #[tv k ⟨#[]⟩ n 0 s, .int .i64 kind] w (Yes w) := by
  unfold TokenOk at h
  have HT := Lib.hid h
  obtain ⟨q, l, c, rfl⟩ := hs
  clear h
  go_enter Tryz.func31, Tryz.ntmps31
  go_wp2_with (go_at_call 57; ((with_reducible refine (HT.out _).mono ?_); rintro e w1 ⟨rfl, hb⟩; obtain ⟨hc, hf⟩ := bcell hb; have z1 := hb.size; rw [World.size_alloc] at z1; have y1 : w.heap.size < w1.heap.size := (by omega)))
  go_ret
  exact ⟨rfl, (below_alloc w _).trans (hb.mono (by simp))⟩
theorem named_ok (kind k : Int) (n : ByteArray) (s : Value) (h : TokenOk kind n) (hs : ∃ q l c, s = .slice q l c) (w : World) : Calls Tryz.prog 29 #[tv k ⟨#[]⟩ n 0 s, .int .i64 kind] w (Yes w) := by
  have HT := Lib.hid (fun W => qualified_ok kind k n s h hs W)
  obtain ⟨q, l, c, rfl⟩ := hs
  clear h
  go_enter Tryz.func29, Tryz.ntmps29
  go_wp2_with (go_at_call 31; ((with_reducible refine (HT.out _).mono ?_); rintro e w1 ⟨rfl, hb⟩))
  go_ret
  exact ⟨rfl, (below_alloc w _).trans (hb.mono (by simp))⟩
theorem bare_ok (k : Int) (s : Value) (hs : ∃ q l c, s = .slice q l c) (w : World) : Calls Tryz.prog 33 #[tv k ⟨#[]⟩ ⟨#[]⟩ 0 s] w (Yes w) := by
  obtain ⟨q, l, c, rfl⟩ := hs
  go_enter Tryz.func33, Tryz.ntmps33
  go_wp2
  go_ret
  exact ⟨rfl, below_alloc w _⟩
/-- All Kids of a list, each at most so deep, are such that a function answers true of each. -/
def AllYes (K d : Nat) (kids : List Tm) : Prop := ∀ (i : Nat) (x : Tm), kids[i]? = some x → ∀ (v : Value) (W : World), IsT W d v x → Calls Tryz.prog K #[v] W (Yes W)
set_option maxRecDepth 100000 in
set_option maxHeartbeats 1000000 in
theorem areAll_ok (d : Nat) (kids : List Tm) (h : AllYes 9 d kids) (s : Value) (w : World) (hk : KidsT w d s kids) : Calls Tryz.prog 32 #[s, .func (.func 9) #[] #[]] w (Yes w) := by
  obtain ⟨q, c, rfl, hm, hr⟩ := hk
  unfold maxLen at hm
  have HR := Lib.hid hr
  unfold AllYes at h
  have HA := Lib.hid h
  clear hr h
  go_enter Tryz.func32, Tryz.ntmps32
  go_wp2
  go_loopw [9] (fun i wr => ∃ k : Nat, k ≤ kids.length ∧ i = .int .i64 k ∧ Below w.heap.size w wr) (fun i _ => kids.length - (intOf i).toNat)
  case atStart => exact ⟨0, Nat.zero_le _, rfl, Below.refl _ _⟩
  case round =>
    obtain ⟨k, hk, rfl, hB⟩ := hrel
    have hzr := hB.size
    have HB := Lib.hid hB
    by_cases hlt : k < kids.length
    · have hx1 := List.getElem?_eq_getElem hlt
      generalize kids[k] = x at *
      obtain ⟨b1, o1, k1', p1', n1', N1', s1', hq1, ha1, ht1⟩ := HR.out k x hx1
      subst hq1
      obtain ⟨q3, l3, c3, hs3⟩ := ht1.spell
      subst hs3
      obtain ⟨x0, x1, x2, x3, x4⟩ := ha1.below hB ha1.lt
      have HC : RowKit.Hid (∀ W, Below wr.heap.size wr W → Calls Tryz.prog 9 #[tv k1' p1' n1' N1' (.slice q3 l3 c3)] W (Yes W)) :=
        Lib.hid fun W hW => HA.out k x hx1 _ W ((ht1.below hB).below hW)
      clear hx1 ht1 ha1 hB
      go_wp2_with (go_at_call 9; ((with_reducible refine (HC.out _ (below_alloc wr _)).mono ?_); rintro e w3 ⟨rfl, hb⟩))
      have HQ := Lib.hid (HB.out.trans (((below_alloc wr _).trans (hb.mono (by simp))).mono hzr))
      go_roundw
      case rel => exact ⟨k + 1, by omega, by go_num, HQ.out⟩
      case measure => simp [intOf]; omega
    · obtain rfl : k = kids.length := by omega
      go_wp2
      go_ret
      exact ⟨rfl, HB.out⟩
set_option maxRecDepth 100000 in
set_option maxHeartbeats 2000000 in
theorem isOf_ok9 (d : Nat) (kids : List Tm) (h : AllYes 9 d kids) (s : Value) (g : Nat) (w : World) (hk : KidsT w d s kids) (hg : ∀ j, j < kids.length → w.cell? ⟨g, j, none⟩ = some (.func (.func 9) #[] #[])) (hgw : g < w.heap.size) :
    Calls Tryz.prog 30 #[s, .slice (some ⟨g, 0, none⟩) kids.length kids.length] w (Yes w) := by
  obtain ⟨q, c, rfl, hm, hr⟩ := hk
  unfold maxLen at hm
  have HR := Lib.hid hr
  have HG := Lib.hid hg
  unfold AllYes at h
  have HA := Lib.hid h
  clear hr h hg
  go_enter Tryz.func30, Tryz.ntmps30
  go_wp2
  go_loopw [14] (fun i wr => ∃ k : Nat, k ≤ kids.length ∧ i = .int .i64 k ∧ Below w.heap.size w wr) (fun i _ => kids.length - (intOf i).toNat)
  case atStart => exact ⟨0, Nat.zero_le _, rfl, Below.refl _ _⟩
  case round =>
    obtain ⟨k, hk, rfl, hB⟩ := hrel
    have hzr := hB.size
    have HB := Lib.hid hB
    by_cases hlt : k < kids.length
    · have hx1 := List.getElem?_eq_getElem hlt
      generalize kids[k] = x at *
      obtain ⟨b1, o1, k1', p1', n1', N1', s1', hq1, ha1, ht1⟩ := HR.out k x hx1
      subst hq1
      obtain ⟨q3, l3, c3, hs3⟩ := ht1.spell
      subst hs3
      obtain ⟨x0, x1, x2, x3, x4⟩ := ha1.below hB ha1.lt
      have m0 : wr.cell? ⟨g, k, none⟩ = some (.func (.func 9) #[] #[]) := (hB.cell (p := ⟨g, k, none⟩) hgw).trans (HG.out k hlt)
      have HC : RowKit.Hid (∀ W, Below wr.heap.size wr W → Calls Tryz.prog 9 #[tv k1' p1' n1' N1' (.slice q3 l3 c3)] W (Yes W)) :=
        Lib.hid fun W hW => HA.out k x hx1 _ W ((ht1.below hB).below hW)
      have hki : (k : Int) < (kids.length : Int) := by omega
      have hgr : g < wr.heap.size := by omega
      have k0 := hb_new wr (.cells #[.int .i64 k1', .string p1', .string n1', .int .i64 N1', .slice q3 l3 c3] 24)
      have K0 := Lib.hid k0
      clear hx1 ht1 ha1 hB k0
      go_wp2
      refine wp_region_held_drew (S := (fun w' => RowKit.Hid (Below wr.heap.size wr w') ∧ w'.cell? ⟨g, k, none⟩ = some (.func (.func 9) #[] #[]) ∧ w'.cell? ⟨wr.heap.size, 0, none⟩ = some (.int .i64 k1') ∧ w'.cell? ⟨wr.heap.size, 1, none⟩ = some (.string p1') ∧ w'.cell? ⟨wr.heap.size, 2, none⟩ = some (.string n1') ∧ w'.cell? ⟨wr.heap.size, 3, none⟩ = some (.int .i64 N1') ∧ w'.cell? ⟨wr.heap.size, 4, none⟩ = some (.slice q3 l3 c3))) (by kernel_rfl) (by exact ⟨Lib.hid (below_drewN (below_alloc wr _) 1), keep_cell (below_drewN (below_alloc wr (.cells #[.int .i64 k1', .string p1', .string n1', .int .i64 N1', .slice q3 l3 c3] 24)) 1) m0, hb_at K0.out 0 rfl, hb_at K0.out 1 rfl, hb_at K0.out 2 rfl, hb_at K0.out 3 rfl, hb_at K0.out 4 rfl⟩) (fun hHeld => ?_)
      refine wpAnyH_take (i := 0) (oi := ⟨some 19, _, _, _, _, _⟩) (v := ?_) rfl (by kernel_rfl) (by kernel_rfl) (by kernel_rfl) (fun _ _ _ h => h) (Or.inl ⟨by rfl, ?_⟩) (by assumption) ?_
      rotate_left
      focus (intro w hSw; (try dsimp only at hSw); go_simp; first | done | with_reducible rfl)
      try simp only [Act.put, List.setIfInBounds_toArray, List.set_cons_zero, List.set_cons_succ]
      refine wpAnyH_take (i := 1) (oi := ⟨some 20, _, _, _, _, _⟩) (v := ?_) rfl (by kernel_rfl) (by kernel_rfl) (by kernel_rfl) (fun _ _ _ h => h) (Or.inl ⟨by rfl, ?_⟩) (by assumption) ?_
      rotate_left
      focus (intro w hSw; (try dsimp only at hSw); go_simp; first | done | with_reducible rfl)
      try simp only [Act.put, List.setIfInBounds_toArray, List.set_cons_zero, List.set_cons_succ]
      refine wpAnyH_take (i := 2) (oi := ⟨some 21, _, _, _, _, _⟩) (v := ?_) rfl (by kernel_rfl) (by kernel_rfl) (by kernel_rfl) (fun _ _ _ h => h) (Or.inl ⟨by rfl, ?_⟩) (by assumption) ?_
      rotate_left
      focus (intro w hSw; (try dsimp only at hSw); go_simp; first | done | with_reducible rfl)
      try simp only [Act.put, List.setIfInBounds_toArray, List.set_cons_zero, List.set_cons_succ]
      refine wpAnyH_take (i := 3) (oi := ⟨some 22, _, _, _, _, _⟩) (v := ?_) rfl (by kernel_rfl) (by kernel_rfl) (by kernel_rfl) (fun _ _ _ h => h) (Or.inl ⟨by rfl, ?_⟩) (by assumption) ?_
      rotate_left
      focus (intro w hSw; (try dsimp only at hSw); go_simp; first | done | with_reducible rfl)
      try simp only [Act.put, List.setIfInBounds_toArray, List.set_cons_zero, List.set_cons_succ]
      refine wpAnyH_take (i := 4) (oi := ⟨some 23, _, _, _, _, _⟩) (v := ?_) rfl (by kernel_rfl) (by kernel_rfl) (by kernel_rfl) (fun _ _ _ h => h) (Or.inl ⟨by rfl, ?_⟩) (by assumption) ?_
      rotate_left
      focus (intro w hSw; (try dsimp only at hSw); go_simp; first | done | with_reducible rfl)
      try simp only [Act.put, List.setIfInBounds_toArray, List.set_cons_zero, List.set_cons_succ]
      refine wpAnyH_ready (rs := [5]) (by kernel_rfl) (by simp) ?_
      refine AllReadyH.cons (o := ⟨some 24, _, _, _, _, _⟩) rfl (fun K hK => ?_) AllReadyH.nil
      go_simp
      ((with_reducible refine (HC.out _ hHeld.1.out).mono ?_); rintro e w3 ⟨rfl, hb⟩)
      go_wp2_with fail
      refine hK.out _ _ (by exact ⟨Lib.hid (hHeld.1.out.trans (hb.mono hHeld.1.out.size)), keep_cell hb hHeld.2.1, keep_cell hb hHeld.2.2.1, keep_cell hb hHeld.2.2.2.1, keep_cell hb hHeld.2.2.2.2.1, keep_cell hb hHeld.2.2.2.2.2.1, keep_cell hb hHeld.2.2.2.2.2.2⟩) (fun hNew => ?_)
      clear hK K
      clear hHeld hb; have hHeld := hNew; clear hNew
      try simp only [Act.put, List.setIfInBounds_toArray, List.set_cons_zero, List.set_cons_succ]
      refine wpAnyH_take (i := 6) (oi := ⟨some 25, _, _, _, _, _⟩) (v := ?_) rfl (by kernel_rfl) (by kernel_rfl) (by kernel_rfl) (fun _ _ _ h => h) (Or.inl ⟨by rfl, ?_⟩) (by assumption) ?_
      rotate_left
      focus (intro w hSw; (try dsimp only at hSw); go_simp; first | done | with_reducible rfl)
      try simp only [Act.put, List.setIfInBounds_toArray, List.set_cons_zero, List.set_cons_succ]
      refine wpAnyH_done (by kernel_rfl) ?_ _
      have HQ := Lib.hid (HB.out.trans (hHeld.1.out.mono hzr))
      clear hHeld
      go_wp2
      go_roundw
      case rel => exact ⟨k + 1, by omega, by go_num, HQ.out⟩
      case measure => simp [intOf]; omega
    · obtain rfl : k = kids.length := by omega
      go_wp2
      go_ret
      exact ⟨rfl, HB.out⟩
set_option maxRecDepth 100000 in
set_option maxHeartbeats 2000000 in
theorem isOf_ok13 (d : Nat) (kids : List Tm) (h : AllYes 13 d kids) (s : Value) (g : Nat) (w : World) (hk : KidsT w d s kids) (hg : ∀ j, j < kids.length → w.cell? ⟨g, j, none⟩ = some (.func (.func 13) #[] #[])) (hgw : g < w.heap.size) :
    Calls Tryz.prog 30 #[s, .slice (some ⟨g, 0, none⟩) kids.length kids.length] w (Yes w) := by
  obtain ⟨q, c, rfl, hm, hr⟩ := hk
  unfold maxLen at hm
  have HR := Lib.hid hr
  have HG := Lib.hid hg
  unfold AllYes at h
  have HA := Lib.hid h
  clear hr h hg
  go_enter Tryz.func30, Tryz.ntmps30
  go_wp2
  go_loopw [14] (fun i wr => ∃ k : Nat, k ≤ kids.length ∧ i = .int .i64 k ∧ Below w.heap.size w wr) (fun i _ => kids.length - (intOf i).toNat)
  case atStart => exact ⟨0, Nat.zero_le _, rfl, Below.refl _ _⟩
  case round =>
    obtain ⟨k, hk, rfl, hB⟩ := hrel
    have hzr := hB.size
    have HB := Lib.hid hB
    by_cases hlt : k < kids.length
    · have hx1 := List.getElem?_eq_getElem hlt
      generalize kids[k] = x at *
      obtain ⟨b1, o1, k1', p1', n1', N1', s1', hq1, ha1, ht1⟩ := HR.out k x hx1
      subst hq1
      obtain ⟨q3, l3, c3, hs3⟩ := ht1.spell
      subst hs3
      obtain ⟨x0, x1, x2, x3, x4⟩ := ha1.below hB ha1.lt
      have m0 : wr.cell? ⟨g, k, none⟩ = some (.func (.func 13) #[] #[]) := (hB.cell (p := ⟨g, k, none⟩) hgw).trans (HG.out k hlt)
      have HC : RowKit.Hid (∀ W, Below wr.heap.size wr W → Calls Tryz.prog 13 #[tv k1' p1' n1' N1' (.slice q3 l3 c3)] W (Yes W)) :=
        Lib.hid fun W hW => HA.out k x hx1 _ W ((ht1.below hB).below hW)
      have hki : (k : Int) < (kids.length : Int) := by omega
      have hgr : g < wr.heap.size := by omega
      have k0 := hb_new wr (.cells #[.int .i64 k1', .string p1', .string n1', .int .i64 N1', .slice q3 l3 c3] 24)
      have K0 := Lib.hid k0
      clear hx1 ht1 ha1 hB k0
      go_wp2
      refine wp_region_held_drew (S := (fun w' => RowKit.Hid (Below wr.heap.size wr w') ∧ w'.cell? ⟨g, k, none⟩ = some (.func (.func 13) #[] #[]) ∧ w'.cell? ⟨wr.heap.size, 0, none⟩ = some (.int .i64 k1') ∧ w'.cell? ⟨wr.heap.size, 1, none⟩ = some (.string p1') ∧ w'.cell? ⟨wr.heap.size, 2, none⟩ = some (.string n1') ∧ w'.cell? ⟨wr.heap.size, 3, none⟩ = some (.int .i64 N1') ∧ w'.cell? ⟨wr.heap.size, 4, none⟩ = some (.slice q3 l3 c3))) (by kernel_rfl) (by exact ⟨Lib.hid (below_drewN (below_alloc wr _) 1), keep_cell (below_drewN (below_alloc wr (.cells #[.int .i64 k1', .string p1', .string n1', .int .i64 N1', .slice q3 l3 c3] 24)) 1) m0, hb_at K0.out 0 rfl, hb_at K0.out 1 rfl, hb_at K0.out 2 rfl, hb_at K0.out 3 rfl, hb_at K0.out 4 rfl⟩) (fun hHeld => ?_)
      refine wpAnyH_take (i := 0) (oi := ⟨some 19, _, _, _, _, _⟩) (v := ?_) rfl (by kernel_rfl) (by kernel_rfl) (by kernel_rfl) (fun _ _ _ h => h) (Or.inl ⟨by rfl, ?_⟩) (by assumption) ?_
      rotate_left
      focus (intro w hSw; (try dsimp only at hSw); go_simp; first | done | with_reducible rfl)
      try simp only [Act.put, List.setIfInBounds_toArray, List.set_cons_zero, List.set_cons_succ]
      refine wpAnyH_take (i := 1) (oi := ⟨some 20, _, _, _, _, _⟩) (v := ?_) rfl (by kernel_rfl) (by kernel_rfl) (by kernel_rfl) (fun _ _ _ h => h) (Or.inl ⟨by rfl, ?_⟩) (by assumption) ?_
      rotate_left
      focus (intro w hSw; (try dsimp only at hSw); go_simp; first | done | with_reducible rfl)
      try simp only [Act.put, List.setIfInBounds_toArray, List.set_cons_zero, List.set_cons_succ]
      refine wpAnyH_take (i := 2) (oi := ⟨some 21, _, _, _, _, _⟩) (v := ?_) rfl (by kernel_rfl) (by kernel_rfl) (by kernel_rfl) (fun _ _ _ h => h) (Or.inl ⟨by rfl, ?_⟩) (by assumption) ?_
      rotate_left
      focus (intro w hSw; (try dsimp only at hSw); go_simp; first | done | with_reducible rfl)
      try simp only [Act.put, List.setIfInBounds_toArray, List.set_cons_zero, List.set_cons_succ]
      refine wpAnyH_take (i := 3) (oi := ⟨some 22, _, _, _, _, _⟩) (v := ?_) rfl (by kernel_rfl) (by kernel_rfl) (by kernel_rfl) (fun _ _ _ h => h) (Or.inl ⟨by rfl, ?_⟩) (by assumption) ?_
      rotate_left
      focus (intro w hSw; (try dsimp only at hSw); go_simp; first | done | with_reducible rfl)
      try simp only [Act.put, List.setIfInBounds_toArray, List.set_cons_zero, List.set_cons_succ]
      refine wpAnyH_take (i := 4) (oi := ⟨some 23, _, _, _, _, _⟩) (v := ?_) rfl (by kernel_rfl) (by kernel_rfl) (by kernel_rfl) (fun _ _ _ h => h) (Or.inl ⟨by rfl, ?_⟩) (by assumption) ?_
      rotate_left
      focus (intro w hSw; (try dsimp only at hSw); go_simp; first | done | with_reducible rfl)
      try simp only [Act.put, List.setIfInBounds_toArray, List.set_cons_zero, List.set_cons_succ]
      refine wpAnyH_ready (rs := [5]) (by kernel_rfl) (by simp) ?_
      refine AllReadyH.cons (o := ⟨some 24, _, _, _, _, _⟩) rfl (fun K hK => ?_) AllReadyH.nil
      go_simp
      ((with_reducible refine (HC.out _ hHeld.1.out).mono ?_); rintro e w3 ⟨rfl, hb⟩)
      go_wp2_with fail
      refine hK.out _ _ (by exact ⟨Lib.hid (hHeld.1.out.trans (hb.mono hHeld.1.out.size)), keep_cell hb hHeld.2.1, keep_cell hb hHeld.2.2.1, keep_cell hb hHeld.2.2.2.1, keep_cell hb hHeld.2.2.2.2.1, keep_cell hb hHeld.2.2.2.2.2.1, keep_cell hb hHeld.2.2.2.2.2.2⟩) (fun hNew => ?_)
      clear hK K
      clear hHeld hb; have hHeld := hNew; clear hNew
      try simp only [Act.put, List.setIfInBounds_toArray, List.set_cons_zero, List.set_cons_succ]
      refine wpAnyH_take (i := 6) (oi := ⟨some 25, _, _, _, _, _⟩) (v := ?_) rfl (by kernel_rfl) (by kernel_rfl) (by kernel_rfl) (fun _ _ _ h => h) (Or.inl ⟨by rfl, ?_⟩) (by assumption) ?_
      rotate_left
      focus (intro w hSw; (try dsimp only at hSw); go_simp; first | done | with_reducible rfl)
      try simp only [Act.put, List.setIfInBounds_toArray, List.set_cons_zero, List.set_cons_succ]
      refine wpAnyH_done (by kernel_rfl) ?_ _
      have HQ := Lib.hid (HB.out.trans (hHeld.1.out.mono hzr))
      clear hHeld
      go_wp2
      go_roundw
      case rel => exact ⟨k + 1, by omega, by go_num, HQ.out⟩
      case measure => simp [intOf]; omega
    · obtain rfl : k = kids.length := by omega
      go_wp2
      go_ret
      exact ⟨rfl, HB.out⟩
end Go.Proofs.YthcpmdgdbceeiaaGreatDoor
