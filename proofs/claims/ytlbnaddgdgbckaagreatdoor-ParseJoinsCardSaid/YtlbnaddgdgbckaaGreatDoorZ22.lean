/- Texts in a row: Mn S2. -/
import Derived.Test.YtlbnaddgdgbckaaGreatDoorZ21
import Derived.Lib.AtoiTie
import Derived.Shelf.LaysC
import Derived.Shelf.Strconv.AtoiAll
import Derived.Test.YtlbnaddgdgbckaaGreatDoorProg
/- What an int's bytes say. -/
namespace Go.Proofs.YtlbnaddgdgbckaaGreatDoor
open Go.RowKit
set_option linter.unusedSimpArgs false
set_option linter.unusedVariables false
theorem take_cnt (p : UInt8 → Bool) : ∀ l : List UInt8, l.take (cnt p l) = l.takeWhile p := by
  intro l
  unfold cnt
  induction l with
  | nil => rfl
  | cons c l ih =>
    rw [List.takeWhile_cons]
    split
    · simp [ih]
    · rfl
theorem takeW_all (p : UInt8 → Bool) : ∀ l : List UInt8, ∀ b ∈ l.takeWhile p, p b = true := by
  intro l
  induction l with
  | nil => intro b h; cases h
  | cons c l ih =>
    intro b h
    rw [List.takeWhile_cons] at h
    split at h
    · rename_i hc
      cases h with
      | head => exact hc
      | tail _ h => exact ih b h
    · cases h
theorem dg_val {b : UInt8} (h : dgB b = true) : Lib.digitVal b = some (b.toNat - 48) := by
  unfold dgB at h
  simp at h
  unfold Lib.digitVal
  rw [if_pos h]
theorem dec_all : ∀ (l : List UInt8) (acc : Nat), (∀ b ∈ l, dgB b = true) → ∃ m, Lib.decFrom acc l = some m := by
  intro l
  induction l with
  | nil => intro acc _; exact ⟨acc, rfl⟩
  | cons c l ih =>
    intro acc h
    obtain ⟨m, hm⟩ := ih (acc * 10 + (c.toNat - 48)) fun b hb => h b (List.mem_cons_of_mem _ hb)
    refine ⟨m, ?_⟩
    rw [Lib.decFrom, dg_val (h c (List.mem_cons_self ..))]
    exact hm
/-- The digits of an int. -/
def intD (l : List UInt8) : List UInt8 := l.take (intN l)
theorem intD_all (l : List UInt8) : ∀ b ∈ intD l, dgB b = true := by
  intro b hb
  unfold intD intN at hb
  split at hb
  · rename_i hz
    unfold zhB at hz
    cases l with
    | nil => simp at hz
    | cons c l =>
      simp at hz
      subst hz
      simp at hb
      subst hb
      rfl
  · rw [take_cnt] at hb
    exact takeW_all dgB l b hb
theorem intN_le (l : List UInt8) : intN l ≤ l.length := by
  unfold intN
  split
  · rename_i hz
    have := cnt_le dgB l
    have := zh_cnt hz
    omega
  · exact cnt_le dgB l
theorem intD_len (l : List UInt8) : (intD l).length = intN l := by
  unfold intD
  rw [List.length_take]
  have := intN_le l
  omega
theorem intD_dec {l : List UInt8} (h1 : intN l ≠ 0) (h2 : intN l ≤ 18) : ∃ m, Lib.decNat (intD l) = some m ∧ m < 9223372036854775808 := by
  obtain ⟨m, hm⟩ := dec_all (intD l) 0 (intD_all l)
  have hl := intD_len l
  have he : Lib.decNat (intD l) = some m := by
    unfold Lib.decNat
    rw [if_neg (by cases e : intD l with | nil => rw [e] at hl; simp at hl; omega | cons a b => simp), hm]
  exact ⟨m, he, Lib.decNat_small (by omega) he⟩
theorem intM_neg {l : List UInt8} (hp : Lib.hasPrefix l [45] = true) (h : intM l ≠ 0) : intM l = 1 + intN (l.drop 1) ∧ zhB (l.drop 1) = false ∧ intN (l.drop 1) ≠ 0 ∧ intN (l.drop 1) ≤ 18 := by
  unfold intM at h ⊢
  rw [hp] at h ⊢
  rw [if_pos rfl] at h ⊢
  cases hz : (zhB (l.drop 1) || decide (intN (l.drop 1) = 0) || decide (18 < intN (l.drop 1)))
  · rw [hz] at h
    simp only [Bool.or_eq_false_iff, decide_eq_false_iff_not] at hz
    exact ⟨rfl, hz.1.1, hz.1.2, by omega⟩
  · rw [hz] at h
    exact absurd rfl h
theorem intM_plain {l : List UInt8} (hp : Lib.hasPrefix l [45] = false) (h : intM l ≠ 0) : intM l = intN l ∧ intN l ≠ 0 ∧ intN l ≤ 18 := by
  unfold intM at h ⊢
  rw [hp] at h ⊢
  rw [if_neg (by simp)] at h ⊢
  cases hz : (decide (intN l = 0) || decide (18 < intN l))
  · rw [hz] at h
    simp at hz
    exact ⟨rfl, hz.1, hz.2⟩
  · rw [hz] at h
    exact absurd rfl h
/-- What the int at the beginning is. -/
def intV (l : List UInt8) : Int := if Lib.hasPrefix l [45] then -((Lib.decNat (intD (l.drop 1))).getD 0 : Nat) else ((Lib.decNat (intD l)).getD 0 : Nat)
theorem pre_cons {l : List UInt8} (hp : Lib.hasPrefix l [45] = true) : l = 45 :: l.drop 1 := by
  unfold Lib.hasPrefix at hp
  cases l with
  | nil => simp at hp
  | cons c l => simp at hp; subst hp; rfl
theorem intM_ok {l : List UInt8} (h : intM l ≠ 0) : Lib.atoiAll (l.take (intM l)) = .ok (intV l) := by
  cases hp : Lib.hasPrefix l [45]
  · obtain ⟨e1, e2, e3⟩ := intM_plain hp h
    rw [e1]
    obtain ⟨m, hm, hs⟩ := intD_dec e2 e3
    have hV : intV l = (m : Int) := by unfold intV; rw [hp, hm]; rfl
    rw [hV]
    show Lib.atoiAll (intD l) = _
    have hl := intD_len l
    have ha := intD_all l
    cases e : intD l with
    | nil => rw [e] at hl; simp at hl; omega
    | cons c r =>
      have hc := ha c (by rw [e]; exact List.mem_cons_self ..)
      unfold dgB at hc
      simp at hc
      rw [Lib.atoiAll_plain c r (by omega) (by omega), ← e, Lib.parseMag_short _ (by omega), hm]
      show (if 9223372036854775808 ≤ m then Lib.NumEnd.range else Lib.NumEnd.ok (m : Int)) = _
      rw [if_neg (by omega)]
  · obtain ⟨e1, e0, e2, e3⟩ := intM_neg hp h
    rw [e1]
    obtain ⟨m, hm, hs⟩ := intD_dec e2 e3
    have hV : intV l = -(m : Int) := by unfold intV; rw [hp, hm]; rfl
    rw [hV]
    have hl := intD_len (l.drop 1)
    have ht : l.take (1 + intN (l.drop 1)) = 45 :: intD (l.drop 1) := by
      rw [pre_cons hp, Nat.add_comm 1, List.take_succ_cons]
      rfl
    rw [ht, Lib.atoiAll_minus, Lib.parseMag_short _ (by omega), hm]
    show (if 9223372036854775808 < m then Lib.NumEnd.range else Lib.NumEnd.ok (-(m : Int))) = _
    rw [if_neg (by omega)]
end Go.Proofs.YtlbnaddgdgbckaaGreatDoor
/-
  DERIVED: THE SHELF's CONTRACTS AT THIS DUMP, IN PLAIN WORDS (tools/lay-plain.mjs out of 'YtlbnaddgdgbckaaGreatDoorS2x.lean', which tools/lay-shelf.mjs wrote): THE SAME DECLARATIONS UNDER THE SAME NAMES: 'import', 'namespace', 'open', 'def', 'theorem' AND NOTHING ELSE: no command of the shelf's: FOR A HAND-IN. Each laying: the table of numbers ('.._ren') and one theorem, a field a fact of the dump's own or the kernel's comparison; each contract: ONE APPLICATION.
-/
namespace Go.Proofs
open Go.Shelf
def Tryz.laysC172_ren : Go.Shelf.Ren := ⟨fun | 172 => 113 | 244 => 125 | 245 => 126 | 247 => 130 | 279 => 131 | 280 => 132 | 281 => 133 | 282 => 134 | 287 => 136 | 316 => 122 | 171 => 138 | 205 => 137 | 321 => 143 | 322 => 144 | 243 => 145 | 246 => 148 | 283 => 149 | 284 => 150 | 285 => 151 | 286 => 152 | 129 => 154 | 317 => 153 | 318 => 155 | 319 => 156 | 320 => 157 | 337 => 158 | 338 => 159 | n => n, fun | 9 => 9 | 3 => 3 | 75 => 140 | 76 => 142 | 4 => 4 | 5 => 5 | 167 => 159 | 37 => 104 | 0 => 0 | 85 => 160 | 2 => 2 | 168 => 162 | 53 => 166 | 175 => 167 | 46 => 169 | 210 => 171 | 127 => 152 | 145 => 178 | 143 => 176 | 21 => 21 | 171 => 183 | 173 => 186 | 212 => 189 | 51 => 179 | 20 => 20 | 213 => 190 | 232 => 193 | 233 => 194 | 80 => 117 | n => n, fun | 15 => 1 | 16 => 2 | 17 => 4 | 18 => 5 | 19 => 6 | n => n⟩
theorem Tryz.laysC172 : Go.Proofs.LaysC.n172 Tryz.prog Tryz.laysC172_ren := {
  mixed := by kernel_rfl
  f129 := Tryz.func154.trans (congrArg some (by kernel_rfl))
  f171 := Tryz.func138.trans (congrArg some (by kernel_rfl))
  f172 := Tryz.func113.trans (congrArg some (by kernel_rfl))
  f205 := Tryz.func137.trans (congrArg some (by kernel_rfl))
  f243 := Tryz.func145.trans (congrArg some (by kernel_rfl))
  f244 := Tryz.func125.trans (congrArg some (by kernel_rfl))
  f245 := Tryz.func126.trans (congrArg some (by kernel_rfl))
  f246 := Tryz.func148.trans (congrArg some (by kernel_rfl))
  f247 := Tryz.func130.trans (congrArg some (by kernel_rfl))
  f279 := Tryz.func131.trans (congrArg some (by kernel_rfl))
  f280 := Tryz.func132.trans (congrArg some (by kernel_rfl))
  f281 := Tryz.func133.trans (congrArg some (by kernel_rfl))
  f282 := Tryz.func134.trans (congrArg some (by kernel_rfl))
  f283 := Tryz.func149.trans (congrArg some (by kernel_rfl))
  f284 := Tryz.func150.trans (congrArg some (by kernel_rfl))
  f285 := Tryz.func151.trans (congrArg some (by kernel_rfl))
  f286 := Tryz.func152.trans (congrArg some (by kernel_rfl))
  f287 := Tryz.func136.trans (congrArg some (by kernel_rfl))
  f316 := Tryz.func122.trans (congrArg some (by kernel_rfl))
  f317 := Tryz.func153.trans (congrArg some (by kernel_rfl))
  f318 := Tryz.func155.trans (congrArg some (by kernel_rfl))
  f319 := Tryz.func156.trans (congrArg some (by kernel_rfl))
  f320 := Tryz.func157.trans (congrArg some (by kernel_rfl))
  f321 := Tryz.func143.trans (congrArg some (by kernel_rfl))
  f322 := Tryz.func144.trans (congrArg some (by kernel_rfl))
  f337 := Tryz.func158.trans (congrArg some (by kernel_rfl))
  f338 := Tryz.func159.trans (congrArg some (by kernel_rfl))
  t0 := Tryz.underlying0
  a0 := Tryz.isAgg0
  z0 := Tryz.sizeOf0
  v0 := Tryz.zeroValue0
  t2 := Tryz.underlying2
  a2 := Tryz.isAgg2
  z2 := Tryz.sizeOf2
  v2 := Tryz.zeroValue2
  t3 := Tryz.underlying3
  a3 := Tryz.isAgg3
  z3 := Tryz.sizeOf3
  v3 := Tryz.zeroValue3
  t4 := Tryz.underlying4
  a4 := Tryz.isAgg4
  z4 := Tryz.sizeOf4
  v4 := Tryz.zeroValue4
  t5 := Tryz.underlying5
  a5 := Tryz.isAgg5
  z5 := Tryz.sizeOf5
  v5 := Tryz.zeroValue5
  t9 := Tryz.underlying9
  a9 := Tryz.isAgg9
  z9 := Tryz.sizeOf9
  v9 := Tryz.zeroValue9
  t20 := Tryz.underlying20
  a20 := Tryz.isAgg20
  z20 := Tryz.sizeOf20
  v20 := Tryz.zeroValue20
  t21 := Tryz.underlying21
  a21 := Tryz.isAgg21
  z21 := Tryz.sizeOf21
  v21 := Tryz.zeroValue21
  t37 := Tryz.underlying104
  a37 := Tryz.isAgg104
  z37 := Tryz.sizeOf104
  v37 := Tryz.zeroValue104
  t46 := Tryz.underlying169
  a46 := Tryz.isAgg169
  z46 := Tryz.sizeOf169
  v46 := Tryz.zeroValue169
  t51 := Tryz.underlying179
  a51 := Tryz.isAgg179
  z51 := Tryz.sizeOf179
  v51 := Tryz.zeroValue179
  t53 := Tryz.underlying166
  a53 := Tryz.isAgg166
  z53 := Tryz.sizeOf166
  v53 := Tryz.zeroValue166
  t75 := Tryz.underlying140
  a75 := Tryz.isAgg140
  z75 := Tryz.sizeOf140
  v75 := Tryz.zeroValue140
  t76 := Tryz.underlying142
  a76 := Tryz.isAgg142
  z76 := Tryz.sizeOf142
  v76 := Tryz.zeroValue142
  t85 := Tryz.underlying160
  a85 := Tryz.isAgg160
  z85 := Tryz.sizeOf160
  v85 := Tryz.zeroValue160
  t127 := Tryz.underlying152
  a127 := Tryz.isAgg152
  z127 := Tryz.sizeOf152
  v127 := Tryz.zeroValue152
  t143 := Tryz.underlying176
  a143 := Tryz.isAgg176
  z143 := Tryz.sizeOf176
  v143 := Tryz.zeroValue176
  t145 := Tryz.underlying178
  a145 := Tryz.isAgg178
  z145 := Tryz.sizeOf178
  v145 := Tryz.zeroValue178
  t167 := Tryz.underlying159
  a167 := Tryz.isAgg159
  z167 := Tryz.sizeOf159
  v167 := Tryz.zeroValue159
  t168 := Tryz.underlying162
  a168 := Tryz.isAgg162
  z168 := Tryz.sizeOf162
  v168 := Tryz.zeroValue162
  t171 := Tryz.underlying183
  a171 := Tryz.isAgg183
  z171 := Tryz.sizeOf183
  v171 := Tryz.zeroValue183
  t173 := Tryz.underlying186
  a173 := Tryz.isAgg186
  z173 := Tryz.sizeOf186
  v173 := Tryz.zeroValue186
  t175 := Tryz.underlying167
  a175 := Tryz.isAgg167
  z175 := Tryz.sizeOf167
  v175 := Tryz.zeroValue167
  t210 := Tryz.underlying171
  a210 := Tryz.isAgg171
  z210 := Tryz.sizeOf171
  v210 := Tryz.zeroValue171
  t212 := Tryz.underlying189
  a212 := Tryz.isAgg189
  z212 := Tryz.sizeOf189
  v212 := Tryz.zeroValue189
  t213 := Tryz.underlying190
  a213 := Tryz.isAgg190
  z213 := Tryz.sizeOf190
  t232 := Tryz.underlying193
  a232 := Tryz.isAgg193
  z232 := Tryz.sizeOf193
  v232 := Tryz.zeroValue193
  t233 := Tryz.underlying194
  a233 := Tryz.isAgg194
  z233 := Tryz.sizeOf194
  v233 := Tryz.zeroValue194
  g15 := by kernel_rfl
  g16 := by kernel_rfl
  g17 := by kernel_rfl
  g18 := by kernel_rfl
  g19 := by kernel_rfl
  t80 := Tryz.underlying117
  a80 := Tryz.isAgg117
  z80 := Tryz.sizeOf117
  v80 := Tryz.zeroValue117
  i0 := by kernel_rfl
  i2 := by kernel_rfl
  i3 := by kernel_rfl
  i4 := by kernel_rfl
  i5 := by kernel_rfl
  i9 := by kernel_rfl
  i20 := by kernel_rfl
  i21 := by kernel_rfl
  i37 := by kernel_rfl
  i46 := by kernel_rfl
  i51 := by kernel_rfl
  i53 := by kernel_rfl
  i75 := by kernel_rfl
  i76 := by kernel_rfl
  i80 := by kernel_rfl
  i85 := by kernel_rfl
  i127 := by kernel_rfl
  i143 := by kernel_rfl
  i145 := by kernel_rfl
  i167 := by kernel_rfl
  i168 := by kernel_rfl
  i171 := by kernel_rfl
  i173 := by kernel_rfl
  i175 := by kernel_rfl
  i210 := by kernel_rfl
  i212 := by kernel_rfl
  i232 := by kernel_rfl
  i233 := by kernel_rfl
  m15 := by kernel_rfl
  m16 := by kernel_rfl
  m17 := by kernel_rfl
  m18 := by kernel_rfl
  m19 := by kernel_rfl
  c0 := by kernel_rfl
  c2 := by kernel_rfl
  c3 := by kernel_rfl
  c4 := by kernel_rfl
  c5 := by kernel_rfl
  c9 := by kernel_rfl
  c20 := by kernel_rfl
  c21 := by kernel_rfl
  c37 := by kernel_rfl
  c46 := by kernel_rfl
  c51 := by kernel_rfl
  c53 := by kernel_rfl
  c75 := by kernel_rfl
  c76 := by kernel_rfl
  c80 := by kernel_rfl
  c85 := by kernel_rfl
  c127 := by kernel_rfl
  c143 := by kernel_rfl
  c145 := by kernel_rfl
  c167 := by kernel_rfl
  c168 := by kernel_rfl
  c171 := by kernel_rfl
  c173 := by kernel_rfl
  c175 := by kernel_rfl
  c210 := by kernel_rfl
  c212 := by kernel_rfl
  c213 := by kernel_rfl
  c232 := by kernel_rfl
  c233 := by kernel_rfl }
open Go.RowKit in
/-- strconv.Atoi, AT EVERY STRING THAT SPELLS AN int ('Lib.atoiAll .. = .ok v'; of whatever length: leading zeros count): v, AND NO ERROR. The world: as it was, or with the one new row that '[]byte(..)' lays. (LAID: no walk: one application.) -/
theorem Tryz.strconv_Atoi_ok (s : ByteArray) (hmax : s.size ≤ 9223372036854775806) (v : Int) (h : Lib.atoiAll s.data.toList = .ok v) (w : World) :
    Calls Tryz.prog 113 #[.string s] w fun e w' => e = .returned (.tuple #[.int .i64 v, .nilIface]) ∧ (w' = w ∨ ∃ t, w' = Lib.bytesWorld w 5 t) := Any.strconv_Atoi_ok Tryz.laysC172 s hmax v h w
open Go.RowKit in
/-- strconv.Atoi, AT EVERY NUMERAL THAT NO int HOLDS ('.range'): THE GREATEST OR THE LEAST int, BY THE SIGN ('Lib.atoiSat'), AND AN ERROR THAT IS NOT nil: a *NumError in a new block N: {Func: "Atoi", Num: s's bytes, Err: what the variable ErrRange holds}. Of what was there nothing has turned. (LAID: no walk: one application.) -/
theorem Tryz.strconv_Atoi_range (s : ByteArray) (hlim : s.size ≤ 281474976710656) (h : Lib.atoiAll s.data.toList = .range) (ev : Value) (w : World) (hv : w.cell? ⟨2, 0, none⟩ = some ev) (hev : ev = .nilIface ∨ ∃ te pe, ev = .iface te pe) :
    Calls Tryz.prog 113 #[.string s] w fun e w' => ∃ N, e = .returned (.tuple #[.int .i64 (Lib.atoiSat s.data.toList), .iface 162 (.pointer (some ⟨N, 0, none⟩))]) ∧ w.heap.size ≤ N ∧ w'.heap[N]? = some (.cells #[.string ⟨#[65, 116, 111, 105]⟩, .string s, ev] 171 (0, 0)) ∧ Below w.heap.size w w' := Any.strconv_Atoi_range Tryz.laysC172 s hlim h ev w hv hev
end Go.Proofs
