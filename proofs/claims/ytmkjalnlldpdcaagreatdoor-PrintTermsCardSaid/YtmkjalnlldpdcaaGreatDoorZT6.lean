/- Texts in a row: Lg Mn S2 Lh. -/
import Derived.Test.YtmkjalnlldpdcaaGreatDoorZT5
import Derived.Lib.AtoiTie
import Derived.Test.YtmkjalnlldpdcaaGreatDoorZT1
import Derived.Shelf.LaysC
import Derived.Shelf.Strconv.AtoiAll
import Derived.Test.YtmkjalnlldpdcaaGreatDoorProg
set_option maxHeartbeats 16000000
set_option maxRecDepth 100000
namespace Go.Proofs.YtmkjalnlldpdcaaGreatDoor
open Go.RowKit
set_option linter.unusedSimpArgs false
set_option linter.unusedVariables false
def verF (s : ByteArray) : Nat → Nat
 | 0 => 0
 | n + 1 => if Sv.okS (s.extract 0 (n + 1)) then n + 1 else verF s n
def verM (s : ByteArray) : Nat := verF s (min s.size 20)
theorem verF_le (s : ByteArray) : ∀ n, verF s n ≤ n := by
 intro n
 induction n with
 | zero => exact Nat.le_refl _
 | succ n ih => unfold verF; split <;> omega
theorem verM_le (s : ByteArray) : verM s ≤ s.size := Nat.le_trans (verF_le s _) (Nat.min_le_left _ _)
theorem verF_ok (s : ByteArray) : ∀ n, 0 < verF s n → Sv.okS (s.extract 0 (verF s n)) = true := by
 intro n
 induction n with
 | zero => intro h; exact absurd h (by simp [verF])
 | succ n ih =>
  intro h
  unfold verF at h ⊢
  split
  · assumption
  · rename_i h1; rw [if_neg h1] at h; exact ih h
theorem below_alloc' (w : World) (o : Obj) {B : Nat} (h : B ≤ w.heap.size) : Below B w (w.alloc o) := (below_alloc w o).mono h
theorem versionBytes_any (s : ByteArray) (hm : s.size ≤ 4194304) (w : World) :
 Calls Tryz.prog 255 #[.string s] w fun e w' => e = .returned (.int .i64 (verM s : Nat)) ∧ Below w.heap.size w w' := by
 obtain ⟨M, hM⟩ : ∃ M, min s.size 20 = M := ⟨_, rfl⟩
 have hv : verM s = verF s M := by unfold verM; rw [hM]
 have hMs : M ≤ s.size := by omega
 have hmin : min (s.size : Int) 20 = (M : Int) := by omega
 rw [hv]
 clear hv hM
 go_enter Tryz.func255, Tryz.ntmps255
 go_wp2
 go_loopw [3] (fun i wr => ∃ n : Nat, i = .int .i64 n ∧ n ≤ M ∧ verF s n = verF s M ∧ Below w.heap.size w wr) (fun i _ => (intOf i).toNat)
 case atStart => exact ⟨M, rfl, Nat.le_refl _, rfl, Below.refl _ _⟩
 case round =>
  obtain ⟨n, rfl, hn, hv, hbel⟩ := hrel
  cases n with
  | zero =>
   go_wp2
   go_ret
   rw [← hv]
   exact ⟨rfl, hbel⟩
  | succ n =>
   have HV := Hd hv
   clear hv
   have hpi : (0 : Int) < ((n + 1 : Nat) : Int) := by omega
   have hni : ((n + 1 : Nat) : Int) ≤ (s.size : Int) := by omega
   have HP := Hd (fun W => parse_any (s.extract 0 (n + 1)) Q55 W)
   cases ho : Sv.okS (s.extract 0 (n + 1))
   · go_wp2_with (go_at_call 227; ((with_reducible refine (HP.out _).mono ?_); rintro e w1 ⟨rfl, hb⟩; rw [parse_fail ho]))
     have h1 := HV.out
     rw [verF, ho] at h1
     simp only [if_true, if_false, Bool.false_eq_true] at h1
     have hbw : Below w.heap.size w w1 := hbel.trans (hb.mono hbel.size)
     exact ⟨⟨n, rfl, by omega, h1, hbw.trans (below_alloc' w1 _ hbw.size)⟩, by simp [intOf]⟩
   · go_wp2_with (go_at_call 227; ((with_reducible refine (HP.out _).mono ?_); rintro e w1 ⟨rfl, hb⟩; rw [parse_good ho]))
     have h1 := HV.out
     rw [verF, ho] at h1
     simp only [if_true, if_false, Bool.false_eq_true] at h1
     have hbw : Below w.heap.size w w1 := hbel.trans (hb.mono hbel.size)
     go_ret
     exact ⟨ret_int (by omega), hbw.trans (below_alloc' w1 _ hbw.size)⟩
theorem take_cnt (p : UInt8 → Bool) : ∀ l : List UInt8, l.take (cnt p l) = l.takeWhile p := by
 intro l
 unfold cnt
 induction l with
 | nil => rfl
 | cons c l ih =>
  rw [List.takeWhile_cons]
  split
  · simp [ih]
  · rfl
theorem takeW_all (p : UInt8 → Bool) : ∀ l : List UInt8, ∀ b ∈ l.takeWhile p, p b = true := by
 intro l
 induction l with
 | nil => intro b h; cases h
 | cons c l ih =>
  intro b h
  rw [List.takeWhile_cons] at h
  split at h
  · rename_i hc
    cases h with
    | head => exact hc
    | tail _ h => exact ih b h
  · cases h
theorem dg_val {b : UInt8} (h : dgB b = true) : Lib.digitVal b = some (b.toNat - 48) := by
 unfold dgB at h
 simp at h
 unfold Lib.digitVal
 rw [if_pos h]
theorem dec_all : ∀ (l : List UInt8) (acc : Nat), (∀ b ∈ l, dgB b = true) → ∃ m, Lib.decFrom acc l = some m := by
 intro l
 induction l with
 | nil => intro acc _; exact ⟨acc, rfl⟩
 | cons c l ih =>
  intro acc h
  obtain ⟨m, hm⟩ := ih (acc * 10 + (c.toNat - 48)) fun b hb => h b (List.mem_cons_of_mem _ hb)
  refine ⟨m, ?_⟩
  rw [Lib.decFrom, dg_val (h c (List.mem_cons_self ..))]
  exact hm
def intD (l : List UInt8) : List UInt8 := l.take (intN l)
theorem intD_all (l : List UInt8) : ∀ b ∈ intD l, dgB b = true := by
 intro b hb
 unfold intD intN at hb
 split at hb
 · rename_i hz
   unfold zhB at hz
   cases l with
   | nil => simp at hz
   | cons c l =>
    simp at hz
    subst hz
    simp at hb
    subst hb
    rfl
 · rw [take_cnt] at hb
   exact takeW_all dgB l b hb
theorem intN_le (l : List UInt8) : intN l ≤ l.length := by
 unfold intN
 split
 · rename_i hz
   have := cnt_le dgB l
   have := zh_cnt hz
   omega
 · exact cnt_le dgB l
theorem intD_len (l : List UInt8) : (intD l).length = intN l := by
 unfold intD
 rw [List.length_take]
 have := intN_le l
 omega
theorem intD_dec {l : List UInt8} (h1 : intN l ≠ 0) (h2 : intN l ≤ 18) : ∃ m, Lib.decNat (intD l) = some m ∧ m < 9223372036854775808 := by
 obtain ⟨m, hm⟩ := dec_all (intD l) 0 (intD_all l)
 have hl := intD_len l
 have he : Lib.decNat (intD l) = some m := by
  unfold Lib.decNat
  rw [if_neg (by cases e : intD l with | nil => rw [e] at hl; simp at hl; omega | cons a b => simp), hm]
 exact ⟨m, he, Lib.decNat_small (by omega) he⟩
theorem intM_neg {l : List UInt8} (hp : Lib.hasPrefix l [45] = true) (h : intM l ≠ 0) : intM l = 1 + intN (l.drop 1) ∧ zhB (l.drop 1) = false ∧ intN (l.drop 1) ≠ 0 ∧ intN (l.drop 1) ≤ 18 := by
 unfold intM at h ⊢
 rw [hp] at h ⊢
 rw [if_pos rfl] at h ⊢
 cases hz : (zhB (l.drop 1) || decide (intN (l.drop 1) = 0) || decide (18 < intN (l.drop 1)))
 · rw [hz] at h
   simp only [Bool.or_eq_false_iff, decide_eq_false_iff_not] at hz
   exact ⟨rfl, hz.1.1, hz.1.2, by omega⟩
 · rw [hz] at h
   exact absurd rfl h
theorem intM_plain {l : List UInt8} (hp : Lib.hasPrefix l [45] = false) (h : intM l ≠ 0) : intM l = intN l ∧ intN l ≠ 0 ∧ intN l ≤ 18 := by
 unfold intM at h ⊢
 rw [hp] at h ⊢
 rw [if_neg (by simp)] at h ⊢
 cases hz : (decide (intN l = 0) || decide (18 < intN l))
 · rw [hz] at h
   simp at hz
   exact ⟨rfl, hz.1, hz.2⟩
 · rw [hz] at h
   exact absurd rfl h
def intV (l : List UInt8) : Int := if Lib.hasPrefix l [45] then -((Lib.decNat (intD (l.drop 1))).getD 0 : Nat) else ((Lib.decNat (intD l)).getD 0 : Nat)
theorem pre_cons {l : List UInt8} (hp : Lib.hasPrefix l [45] = true) : l = 45 :: l.drop 1 := by
 unfold Lib.hasPrefix at hp
 cases l with
 | nil => simp at hp
 | cons c l => simp at hp; subst hp; rfl
theorem intM_ok {l : List UInt8} (h : intM l ≠ 0) : Lib.atoiAll (l.take (intM l)) = .ok (intV l) := by
 cases hp : Lib.hasPrefix l [45]
 · obtain ⟨e1, e2, e3⟩ := intM_plain hp h
   rw [e1]
   obtain ⟨m, hm, hs⟩ := intD_dec e2 e3
   have hV : intV l = (m : Int) := by unfold intV; rw [hp, hm]; rfl
   rw [hV]
   show Lib.atoiAll (intD l) = _
   have hl := intD_len l
   have ha := intD_all l
   cases e : intD l with
   | nil => rw [e] at hl; simp at hl; omega
   | cons c r =>
    have hc := ha c (by rw [e]; exact List.mem_cons_self ..)
    unfold dgB at hc
    simp at hc
    rw [Lib.atoiAll_plain c r (by omega) (by omega), ← e, Lib.parseMag_short _ (by omega), hm]
    show (if 9223372036854775808 ≤ m then Lib.NumEnd.range else Lib.NumEnd.ok (m : Int)) = _
    rw [if_neg (by omega)]
 · obtain ⟨e1, e0, e2, e3⟩ := intM_neg hp h
   rw [e1]
   obtain ⟨m, hm, hs⟩ := intD_dec e2 e3
   have hV : intV l = -(m : Int) := by unfold intV; rw [hp, hm]; rfl
   rw [hV]
   have hl := intD_len (l.drop 1)
   have ht : l.take (1 + intN (l.drop 1)) = 45 :: intD (l.drop 1) := by
    rw [pre_cons hp, Nat.add_comm 1, List.take_succ_cons]
    rfl
   rw [ht, Lib.atoiAll_minus, Lib.parseMag_short _ (by omega), hm]
   show (if 9223372036854775808 < m then Lib.NumEnd.range else Lib.NumEnd.ok (-(m : Int))) = _
   rw [if_neg (by omega)]
end Go.Proofs.YtmkjalnlldpdcaaGreatDoor
namespace Go.Proofs
open Go.Shelf
def Tryz.laysC172_ren : Go.Shelf.Ren := ⟨fun | 172 => 257 | 244 => 271 | 245 => 272 | 247 => 280 | 279 => 281 | 280 => 282 | 281 => 283 | 282 => 284 | 287 => 288 | 316 => 269 | 171 => 151 | 205 => 289 | 321 => 294 | 322 => 295 | 243 => 203 | 246 => 245 | 283 => 264 | 284 => 265 | 285 => 266 | 286 => 267 | 129 => 276 | 317 => 275 | 318 => 277 | 319 => 278 | 320 => 279 | 337 => 286 | 338 => 287 | n => n, fun | 9 => 9 | 3 => 3 | 75 => 166 | 76 => 167 | 4 => 4 | 5 => 5 | 167 => 247 | 37 => 72 | 0 => 0 | 85 => 248 | 2 => 2 | 168 => 250 | 53 => 232 | 175 => 255 | 46 => 245 | 210 => 258 | 127 => 129 | 145 => 266 | 143 => 264 | 21 => 21 | 171 => 231 | 173 => 235 | 212 => 242 | 51 => 243 | 20 => 20 | 213 => 244 | 232 => 261 | 233 => 262 | 80 => 87 | n => n, fun | 15 => 3 | 16 => 4 | 17 => 1 | 18 => 5 | 19 => 6 | n => n⟩
theorem Tryz.laysC172 : Go.Proofs.LaysC.n172 Tryz.prog Tryz.laysC172_ren := {
 mixed := by kernel_rfl
 f129 := Tryz.func276.trans (congrArg some (by kernel_rfl))
 f171 := Tryz.func151.trans (congrArg some (by kernel_rfl))
 f172 := Tryz.func257.trans (congrArg some (by kernel_rfl))
 f205 := Tryz.func289.trans (congrArg some (by kernel_rfl))
 f243 := Tryz.func203.trans (congrArg some (by kernel_rfl))
 f244 := Tryz.func271.trans (congrArg some (by kernel_rfl))
 f245 := Tryz.func272.trans (congrArg some (by kernel_rfl))
 f246 := Tryz.func245.trans (congrArg some (by kernel_rfl))
 f247 := Tryz.func280.trans (congrArg some (by kernel_rfl))
 f279 := Tryz.func281.trans (congrArg some (by kernel_rfl))
 f280 := Tryz.func282.trans (congrArg some (by kernel_rfl))
 f281 := Tryz.func283.trans (congrArg some (by kernel_rfl))
 f282 := Tryz.func284.trans (congrArg some (by kernel_rfl))
 f283 := Tryz.func264.trans (congrArg some (by kernel_rfl))
 f284 := Tryz.func265.trans (congrArg some (by kernel_rfl))
 f285 := Tryz.func266.trans (congrArg some (by kernel_rfl))
 f286 := Tryz.func267.trans (congrArg some (by kernel_rfl))
 f287 := Tryz.func288.trans (congrArg some (by kernel_rfl))
 f316 := Tryz.func269.trans (congrArg some (by kernel_rfl))
 f317 := Tryz.func275.trans (congrArg some (by kernel_rfl))
 f318 := Tryz.func277.trans (congrArg some (by kernel_rfl))
 f319 := Tryz.func278.trans (congrArg some (by kernel_rfl))
 f320 := Tryz.func279.trans (congrArg some (by kernel_rfl))
 f321 := Tryz.func294.trans (congrArg some (by kernel_rfl))
 f322 := Tryz.func295.trans (congrArg some (by kernel_rfl))
 f337 := Tryz.func286.trans (congrArg some (by kernel_rfl))
 f338 := Tryz.func287.trans (congrArg some (by kernel_rfl))
 t0 := Tryz.underlying0
 a0 := Tryz.isAgg0
 z0 := Tryz.sizeOf0
 v0 := Tryz.zeroValue0
 t2 := Tryz.underlying2
 a2 := Tryz.isAgg2
 z2 := Tryz.sizeOf2
 v2 := Tryz.zeroValue2
 t3 := Tryz.underlying3
 a3 := Tryz.isAgg3
 z3 := Tryz.sizeOf3
 v3 := Tryz.zeroValue3
 t4 := Tryz.underlying4
 a4 := Tryz.isAgg4
 z4 := Tryz.sizeOf4
 v4 := Tryz.zeroValue4
 t5 := Tryz.underlying5
 a5 := Tryz.isAgg5
 z5 := Tryz.sizeOf5
 v5 := Tryz.zeroValue5
 t9 := Tryz.underlying9
 a9 := Tryz.isAgg9
 z9 := Tryz.sizeOf9
 v9 := Tryz.zeroValue9
 t20 := Tryz.underlying20
 a20 := Tryz.isAgg20
 z20 := Tryz.sizeOf20
 v20 := Tryz.zeroValue20
 t21 := Tryz.underlying21
 a21 := Tryz.isAgg21
 z21 := Tryz.sizeOf21
 v21 := Tryz.zeroValue21
 t37 := Tryz.underlying72
 a37 := Tryz.isAgg72
 z37 := Tryz.sizeOf72
 v37 := Tryz.zeroValue72
 t46 := Tryz.underlying245
 a46 := Tryz.isAgg245
 z46 := Tryz.sizeOf245
 v46 := Tryz.zeroValue245
 t51 := Tryz.underlying243
 a51 := Tryz.isAgg243
 z51 := Tryz.sizeOf243
 v51 := Tryz.zeroValue243
 t53 := Tryz.underlying232
 a53 := Tryz.isAgg232
 z53 := Tryz.sizeOf232
 v53 := Tryz.zeroValue232
 t75 := Tryz.underlying166
 a75 := Tryz.isAgg166
 z75 := Tryz.sizeOf166
 v75 := Tryz.zeroValue166
 t76 := Tryz.underlying167
 a76 := Tryz.isAgg167
 z76 := Tryz.sizeOf167
 v76 := Tryz.zeroValue167
 t85 := Tryz.underlying248
 a85 := Tryz.isAgg248
 z85 := Tryz.sizeOf248
 v85 := Tryz.zeroValue248
 t127 := Tryz.underlying129
 a127 := Tryz.isAgg129
 z127 := Tryz.sizeOf129
 v127 := Tryz.zeroValue129
 t143 := Tryz.underlying264
 a143 := Tryz.isAgg264
 z143 := Tryz.sizeOf264
 v143 := Tryz.zeroValue264
 t145 := Tryz.underlying266
 a145 := Tryz.isAgg266
 z145 := Tryz.sizeOf266
 v145 := Tryz.zeroValue266
 t167 := Tryz.underlying247
 a167 := Tryz.isAgg247
 z167 := Tryz.sizeOf247
 v167 := Tryz.zeroValue247
 t168 := Tryz.underlying250
 a168 := Tryz.isAgg250
 z168 := Tryz.sizeOf250
 v168 := Tryz.zeroValue250
 t171 := Tryz.underlying231
 a171 := Tryz.isAgg231
 z171 := Tryz.sizeOf231
 v171 := Tryz.zeroValue231
 t173 := Tryz.underlying235
 a173 := Tryz.isAgg235
 z173 := Tryz.sizeOf235
 v173 := Tryz.zeroValue235
 t175 := Tryz.underlying255
 a175 := Tryz.isAgg255
 z175 := Tryz.sizeOf255
 v175 := Tryz.zeroValue255
 t210 := Tryz.underlying258
 a210 := Tryz.isAgg258
 z210 := Tryz.sizeOf258
 v210 := Tryz.zeroValue258
 t212 := Tryz.underlying242
 a212 := Tryz.isAgg242
 z212 := Tryz.sizeOf242
 v212 := Tryz.zeroValue242
 t213 := Tryz.underlying244
 a213 := Tryz.isAgg244
 z213 := Tryz.sizeOf244
 t232 := Tryz.underlying261
 a232 := Tryz.isAgg261
 z232 := Tryz.sizeOf261
 v232 := Tryz.zeroValue261
 t233 := Tryz.underlying262
 a233 := Tryz.isAgg262
 z233 := Tryz.sizeOf262
 v233 := Tryz.zeroValue262
 g15 := by kernel_rfl
 g16 := by kernel_rfl
 g17 := by kernel_rfl
 g18 := by kernel_rfl
 g19 := by kernel_rfl
 t80 := Tryz.underlying87
 a80 := Tryz.isAgg87
 z80 := Tryz.sizeOf87
 v80 := Tryz.zeroValue87
 i0 := by kernel_rfl
 i2 := by kernel_rfl
 i3 := by kernel_rfl
 i4 := by kernel_rfl
 i5 := by kernel_rfl
 i9 := by kernel_rfl
 i20 := by kernel_rfl
 i21 := by kernel_rfl
 i37 := by kernel_rfl
 i46 := by kernel_rfl
 i51 := by kernel_rfl
 i53 := by kernel_rfl
 i75 := by kernel_rfl
 i76 := by kernel_rfl
 i80 := by kernel_rfl
 i85 := by kernel_rfl
 i127 := by kernel_rfl
 i143 := by kernel_rfl
 i145 := by kernel_rfl
 i167 := by kernel_rfl
 i168 := by kernel_rfl
 i171 := by kernel_rfl
 i173 := by kernel_rfl
 i175 := by kernel_rfl
 i210 := by kernel_rfl
 i212 := by kernel_rfl
 i232 := by kernel_rfl
 i233 := by kernel_rfl
 m15 := by kernel_rfl
 m16 := by kernel_rfl
 m17 := by kernel_rfl
 m18 := by kernel_rfl
 m19 := by kernel_rfl
 c0 := by kernel_rfl
 c2 := by kernel_rfl
 c3 := by kernel_rfl
 c4 := by kernel_rfl
 c5 := by kernel_rfl
 c9 := by kernel_rfl
 c20 := by kernel_rfl
 c21 := by kernel_rfl
 c37 := by kernel_rfl
 c46 := by kernel_rfl
 c51 := by kernel_rfl
 c53 := by kernel_rfl
 c75 := by kernel_rfl
 c76 := by kernel_rfl
 c80 := by kernel_rfl
 c85 := by kernel_rfl
 c127 := by kernel_rfl
 c143 := by kernel_rfl
 c145 := by kernel_rfl
 c167 := by kernel_rfl
 c168 := by kernel_rfl
 c171 := by kernel_rfl
 c173 := by kernel_rfl
 c175 := by kernel_rfl
 c210 := by kernel_rfl
 c212 := by kernel_rfl
 c213 := by kernel_rfl
 c232 := by kernel_rfl
 c233 := by kernel_rfl }
open Go.RowKit in
theorem Tryz.strconv_Atoi_ok (s : ByteArray) (hmax : s.size ≤ 9223372036854775806) (v : Int) (h : Lib.atoiAll s.data.toList = .ok v) (w : World) :
 Calls Tryz.prog 257 #[.string s] w fun e w' => e = .returned (.tuple #[.int .i64 v, .nilIface]) ∧ (w' = w ∨ ∃ t, w' = Lib.bytesWorld w 5 t) := Any.strconv_Atoi_ok Tryz.laysC172 s hmax v h w
end Go.Proofs
namespace Go.Proofs.YtmkjalnlldpdcaaGreatDoor
open Go.RowKit
set_option linter.unusedSimpArgs false
set_option linter.unusedVariables false
theorem atoi_int (s : ByteArray) (hm : s.size ≤ 4194304) (v : Int) (h : Lib.atoiAll s.data.toList = .ok v) (w : World) :
 Calls Tryz.prog 257 #[.string s] w fun e w' => e = .returned (.tuple #[.int .i64 v, .nilIface]) ∧ Below w.heap.size w w' := by
 refine (Tryz.strconv_Atoi_ok s (by omega) v h w).mono ?_
 rintro e w' ⟨rfl, hw | ⟨t, rfl⟩⟩
 · subst hw; exact ⟨rfl, Below.refl _ _⟩
 · refine ⟨rfl, ?_⟩
   exact Lib.bytesWorld_below w _ t
def numT (s : ByteArray) : Tk × Nat :=
 if 0 < verM s then (⟨6, s.extract 0 (verM s), 0⟩, verM s)
 else if intM s.data.toList = 0 then (tk0, 0) else (⟨4, ⟨#[]⟩, intV s.data.toList⟩, intM s.data.toList)
theorem intM_le (l : List UInt8) : intM l ≤ l.length := by
 by_cases h : intM l = 0
 · omega
 · cases hp : Lib.hasPrefix l [45]
   · have := (intM_plain hp h).1
     have := intN_le l
     omega
   · have h1 := (intM_neg hp h).1
     have h2 := intN_le (l.drop 1)
     have h3 := congrArg List.length (pre_cons hp)
     rw [List.length_cons] at h3
     omega
theorem firstNumber_any (s : ByteArray) (hm : s.size ≤ 4194304) (w : World) :
 Calls Tryz.prog 225 #[.string s] w fun e w' => e = .returned (.tuple #[(numT s).1.v 0, .int .i64 (numT s).2]) ∧ Below w.heap.size w w' := by
 have hle := verM_le s
 have HV := Hd (fun W => versionBytes_any s hm W)
 have HI := Hd (fun W => intBytes_any s hm W)
 have hil := intM_le s.data.toList
 rw [len_list] at hil
 have HA := Hd (fun (h : intM s.data.toList ≠ 0) => intM_ok h)
 have he : numT s = (if 0 < verM s then (⟨6, s.extract 0 (verM s), 0⟩, verM s)
 else if intM s.data.toList = 0 then (tk0, 0) else (⟨4, ⟨#[]⟩, intV s.data.toList⟩, intM s.data.toList)) := rfl
 rw [he]
 clear he
 generalize intV s.data.toList = V at *
 generalize verM s = M at *
 generalize hI : intM s.data.toList = I at *
 by_cases h1 : 0 < M
 · rw [if_pos h1]
   have hMi : (0 : Int) < (M : Int) := by omega
   have hMs : (M : Int) ≤ (s.size : Int) := by omega
   have HL := Hd (fun W => clone_anyX (s.extract 0 M) Q55 W)
   go_enter Tryz.func225, Tryz.ntmps225
   go_wp2_with (first
    | (go_at_call 255; ((with_reducible refine (HV.out _).mono ?_); rintro e w1 ⟨rfl, hb1⟩; obtain ⟨hc1, hf1⟩ := bcellX hb1; have z1 := hb1.size; rw [World.size_alloc] at z1; have y1 : w.heap.size < w1.heap.size := (by omega)))
    | (go_at_call 249; ((with_reducible refine (HL.out _).mono ?_); rintro e w2 ⟨rfl, hb2⟩; obtain ⟨hc2, hf2⟩ := bcellX hb2; have z2 := hb2.size; have y2 : w.heap.size < w2.heap.size := (by omega))))
   have hB1 : Below w.heap.size w w1 := (below_alloc w _).trans (hb1.mono (by simp))
   have k1 := hb_below (hb_new w (.cells #[.int .i64 0, .string ⟨#[]⟩, .int .i64 0, .int .i64 0] 159)) hb1 (by simp)
   have hB : Below w.heap.size w w2 := hB1.trans (hb2.mono hB1.size)
   have k0 := hb_below k1 hb2 (by omega)
   have r0 := hb_at k0 0 rfl
   have r1 := hb_at k0 1 rfl
   have r2 := hb_at k0 2 rfl
   have r3 := hb_at k0 3 rfl
   exact bodyPost_ret (v := .tuple #[Tk.v ⟨6, s.extract 0 M, 0⟩ 0, .int .i64 M]) Q41 rfl ⟨rfl, (((hB.setCell (by simp) _).setCell (by simp) _).setCell (by simp) _).setCell (by simp) _⟩
 · rw [if_neg h1]
   obtain rfl : M = 0 := by omega
   by_cases h2 : I = 0
   · rw [if_pos h2]
     subst h2
     go_enter Tryz.func225, Tryz.ntmps225
     go_wp2_with (first
      | (go_at_call 255; ((with_reducible refine (HV.out _).mono ?_); rintro e w1 ⟨rfl, hb1⟩; obtain ⟨hc1, hf1⟩ := bcellX hb1; have z1 := hb1.size; rw [World.size_alloc] at z1; have y1 : w.heap.size < w1.heap.size := (by omega)))
      | (go_at_call 256; ((with_reducible refine (HI.out _).mono ?_); rintro e w2 ⟨rfl, rfl⟩)))
     have hB1 : Below w.heap.size w w1 := (below_alloc w _).trans (hb1.mono (by simp))
     have k1 := hb_below (hb_new w (.cells #[.int .i64 0, .string ⟨#[]⟩, .int .i64 0, .int .i64 0] 159)) hb1 (by simp)
     have hB := hB1
     have k0 := k1
     have r0 := hb_at k0 0 rfl
     have r1 := hb_at k0 1 rfl
     have r2 := hb_at k0 2 rfl
     have r3 := hb_at k0 3 rfl
     exact bodyPost_ret (v := .tuple #[tk0.v 0, .int .i64 0]) Q41 rfl ⟨rfl, (((hB.setCell (by simp) _).setCell (by simp) _).setCell (by simp) _).setCell (by simp) _⟩
   · rw [if_neg h2]
     have n2 : ((I : Int) == 0) = false := by rw [beq_eq_false_iff_ne]; omega
     have hIs : (I : Int) ≤ (s.size : Int) := by omega
     have HT := Hd (fun W => atoi_int (s.extract 0 I) Q55 V (by rw [← ByteArray.toList_eq, take_list]; exact HA.out h2) W)
     go_enter Tryz.func225, Tryz.ntmps225
     go_wp2_with (first
      | (go_at_call 255; ((with_reducible refine (HV.out _).mono ?_); rintro e w1 ⟨rfl, hb1⟩; obtain ⟨hc1, hf1⟩ := bcellX hb1; have z1 := hb1.size; rw [World.size_alloc] at z1; have y1 : w.heap.size < w1.heap.size := (by omega)))
      | (go_at_call 256; ((with_reducible refine (HI.out _).mono ?_); rintro e w2 ⟨rfl, rfl⟩))
      | (go_at_call 257; ((with_reducible refine (HT.out _).mono ?_); rintro e w2 ⟨rfl, hb2⟩; obtain ⟨hc2, hf2⟩ := bcellX hb2; have z2 := hb2.size; have y2 : w.heap.size < w2.heap.size := (by omega))))
     have hB1 : Below w.heap.size w w1 := (below_alloc w _).trans (hb1.mono (by simp))
     have k1 := hb_below (hb_new w (.cells #[.int .i64 0, .string ⟨#[]⟩, .int .i64 0, .int .i64 0] 159)) hb1 (by simp)
     have hB : Below w.heap.size w w2 := hB1.trans (hb2.mono hB1.size)
     have k0 := hb_below k1 hb2 (by omega)
     have r0 := hb_at k0 0 rfl
     have r1 := hb_at k0 1 rfl
     have r2 := hb_at k0 2 rfl
     have r3 := hb_at k0 3 rfl
     exact bodyPost_ret (v := .tuple #[Tk.v ⟨4, ⟨#[]⟩, V⟩ 0, .int .i64 I]) Q41 rfl ⟨rfl, (((hB.setCell (by simp) _).setCell (by simp) _).setCell (by simp) _).setCell (by simp) _⟩
end Go.Proofs.YtmkjalnlldpdcaaGreatDoor
