/- Texts in a row: Pz Qa. -/
import Derived.Test.YtlbnaddgdgbckaaGreatDoorZ16
import Derived.Outline
import Derived.Test.YtlbnaddgdgbckaaGreatDoorZ30
import Derived.Test.YtlbnaddgdgbckaaGreatDoorZ18
/- Contracts: isLetter, IsPkg both. -/
namespace Go.Proofs.YtlbnaddgdgbckaaGreatDoor
open Go.RowKit
namespace Sv
def isLet (c : UInt8) : Bool := decide (97 ≤ c.toNat ∧ c.toNat ≤ 122)
theorem isLet_yes {c : UInt8} (h : isLet c = true) : 97 ≤ c.toNat ∧ c.toNat ≤ 122 := by unfold isLet at h; exact of_decide_eq_true h
theorem isLet_no {c : UInt8} (h : isLet c = false) : c.toNat < 97 ∨ (97 ≤ c.toNat ∧ 122 < c.toNat) := by
  unfold isLet at h
  have := of_decide_eq_false h
  omega
theorem let_dig {c : UInt8} (h : isLet c = true) : isDig c = false := by
  have := isLet_yes h
  unfold isDig
  rw [decide_eq_false_iff_not]
  omega
def PkgP (l : List UInt8) : Prop := l ≠ [] ∧ l.length ≤ 20 ∧ (∀ c ∈ l, isLet c = true ∨ isDig c = true) ∧ (∀ c, l.head? = some c → isDig c = false)
noncomputable def pkgB (l : List UInt8) : Bool := by classical exact decide (PkgP l)
theorem pkg_yes {l : List UInt8} (h : PkgP l) : pkgB l = true := by unfold pkgB; simp [h]
theorem pkg_no {l : List UInt8} (h : ¬ PkgP l) : pkgB l = false := by unfold pkgB; simp [h]
theorem head_at {l : List UInt8} (h : 0 < l.length) : l.head? = some l[0] := by rw [List.head?_eq_getElem?, List.getElem?_eq_getElem h]
end Sv
theorem isLetter_any (c : UInt8) (w : World) : Calls Tryz.prog 115 #[.int .u8 (c.toNat : Nat)] w fun e w' => e = .returned (.bool (Sv.isLet c)) ∧ w = w' := by
  have hc : c.toNat < 256 := c.toNat_lt
  rcases Bool.eq_false_or_eq_true (Sv.isLet c) with h | h
  · obtain ⟨h1, h2⟩ := Sv.isLet_yes h
    have H := Lib.hid h
    clear h
    generalize hn : c.toNat = n at *
    have HN := Lib.hid hn
    clear hn
    have d1 : decide (97 ≤ (n : Int)) = true := by simp; omega
    have d2 : decide ((n : Int) ≤ 122) = true := by simp; omega
    go_enter Tryz.func115, Tryz.ntmps115
    go_wp2
    go_ret
    exact ⟨ret_bool H.out.symm, rfl⟩
  · rcases Sv.isLet_no h with h1 | ⟨h1, h2⟩
    · have H := Lib.hid h
      clear h
      generalize hn : c.toNat = n at *
      have HN := Lib.hid hn
      clear hn
      have d1 : decide (97 ≤ (n : Int)) = false := by simp; omega
      go_enter Tryz.func115, Tryz.ntmps115
      go_wp2
      go_ret
      exact ⟨ret_bool H.out.symm, rfl⟩
    · have H := Lib.hid h
      clear h
      generalize hn : c.toNat = n at *
      have HN := Lib.hid hn
      clear hn
      have d1 : decide (97 ≤ (n : Int)) = true := by simp; omega
      have d2 : decide ((n : Int) ≤ 122) = false := by simp; omega
      go_enter Tryz.func115, Tryz.ntmps115
      go_wp2
      go_ret
      exact ⟨ret_bool H.out.symm, rfl⟩
theorem nonempty {s : ByteArray} (h : 0 < s.size) : s.toList.isEmpty = false := by
  rw [ByteArray.toList_eq]
  cases h : s.data.toList with
  | nil => have : s.size = 0 := by rw [← ByteArray.size_data, ← Array.length_toList, h]; rfl
           omega
  | cons a l => rfl
theorem empty_of {s : ByteArray} (h : s.size = 0) : s = ⟨#[]⟩ := by
  cases s with
  | mk d => congr 1; exact Array.eq_empty_of_size_eq_zero h
theorem data_len (s : ByteArray) : s.data.toList.length = s.size := by simp
theorem data_at (s : ByteArray) (k : Nat) (h : k < s.size) (h2 : k < s.data.toList.length) : s.data.toList[k] = s[k] := by simp; rfl
theorem isPkg_none (w : World) : Calls Tryz.prog 94 #[.string ⟨#[]⟩] w fun e w' => e = .returned (.bool false) ∧ w = w' := by
  go_enter Tryz.func94, Tryz.ntmps94
  go_wp2
  go_ret
  exact ⟨rfl, rfl⟩
set_option maxRecDepth 100000 in
theorem isPkg_long (s : ByteArray) (h : 20 < s.size) (w : World) : Calls Tryz.prog 94 #[.string s] w fun e w' => e = .returned (.bool false) ∧ w = w' := by
  have e1 := nonempty (s := s) (by omega)
  have e2 : ¬ s.toList = [] := by intro h; rw [h] at e1; cases e1
  have d1 : decide (20 < (s.size : Int)) = true := by simp; omega
  go_enter Tryz.func94, Tryz.ntmps94
  go_wp2
  go_ret
  exact ⟨rfl, rfl⟩
set_option maxRecDepth 100000 in
theorem isPkg_dig (s : ByteArray) (h0 : 0 < s.size) (h : s.size ≤ 20) (hd : Sv.isDig s[0] = true) (w : World) : Calls Tryz.prog 94 #[.string s] w fun e w' => e = .returned (.bool false) ∧ w = w' := by
  have e1 := nonempty (s := s) (by omega)
  have e2 : ¬ s.toList = [] := by intro h; rw [h] at e1; cases e1
  have d1 : decide (20 < (s.size : Int)) = false := by simp; omega
  have H := Lib.hid hd
  clear hd
  go_enter Tryz.func94, Tryz.ntmps94
  go_wp2_with (go_at_call 114; ((with_reducible refine (isDigit_any s[0] _).mono ?_); rintro e w' ⟨rfl, rfl⟩; rw [H.out]))
  go_ret
  exact ⟨rfl, rfl⟩
set_option maxRecDepth 100000 in
set_option maxHeartbeats 1000000 in
theorem isPkg_loop (s : ByteArray) (h0 : 0 < s.size) (h : s.size ≤ 20) (hd : Sv.isDig s[0] = false) (w : World) : Calls Tryz.prog 94 #[.string s] w fun e w' => e = .returned (.bool (Sv.pkgB s.data.toList)) ∧ w = w' := by
  have e1 := nonempty (s := s) (by omega)
  have e2 : ¬ s.toList = [] := by intro h; rw [h] at e1; cases e1
  have d1 : decide (20 < (s.size : Int)) = false := by simp; omega
  have HL : RowKit.Hid (s.data.toList.length = s.size) := Lib.hid (data_len s)
  have HE : RowKit.Hid (∀ k (h : k < s.size) (h2 : k < s.data.toList.length), s.data.toList[k] = s[k]) := Lib.hid (data_at s)
  have H := Lib.hid hd
  clear hd
  go_enter Tryz.func94, Tryz.ntmps94
  go_wp2_with (go_at_call 114; ((with_reducible refine (isDigit_any s[0] _).mono ?_); rintro e w' ⟨rfl, rfl⟩; rw [H.out]))
  go_loop [18] (fun i => ∃ k : Nat, k ≤ s.size ∧ i = .int .i64 k ∧ (∀ c ∈ s.data.toList.take k, Sv.isLet c = true ∨ Sv.isDig c = true)) (fun i => s.size - (intOf i).toNat)
  case atStart => exact ⟨0, Nat.zero_le _, rfl, by simp⟩
  case round =>
    obtain ⟨k, hk, rfl, hd⟩ := hrel
    have HD := Lib.hid hd
    clear hd
    by_cases hlt : k < s.size
    · have HT : RowKit.Hid (s.data.toList.take (k + 1) = s.data.toList.take k ++ [s[k]]) := Lib.hid (by rw [Sv.take_snoc _ k (by rw [HL.out]; exact hlt), HE.out k hlt])
      rcases Bool.eq_false_or_eq_true (Sv.isLet s[k]) with g | g
      · have G := Lib.hid g
        clear g
        go_wp2_with (first
          | (go_at_call 115; ((with_reducible refine (isLetter_any s[k] _).mono ?_); rintro e w' ⟨rfl, rfl⟩; rw [G.out])))
        go_round
        case rel =>
          refine ⟨k + 1, by omega, by go_num, ?_⟩
          intro c hc
          rw [HT.out] at hc
          rcases List.mem_append.1 hc with hc | hc
          · exact HD.out c hc
          · rw [List.mem_singleton.1 hc]; exact .inl G.out
        case measure => simp [intOf]; omega
      · rcases Bool.eq_false_or_eq_true (Sv.isDig s[k]) with g2 | g2
        · have G := Lib.hid g
          have G2 := Lib.hid g2
          clear g g2
          go_wp2_with (first
            | (go_at_call 115; ((with_reducible refine (isLetter_any s[k] _).mono ?_); rintro e w' ⟨rfl, rfl⟩; rw [G.out]))
            | (go_at_call 114; ((with_reducible refine (isDigit_any s[k] _).mono ?_); rintro e w' ⟨rfl, rfl⟩; rw [G2.out])))
          go_round
          case rel =>
            refine ⟨k + 1, by omega, by go_num, ?_⟩
            intro c hc
            rw [HT.out] at hc
            rcases List.mem_append.1 hc with hc | hc
            · exact HD.out c hc
            · rw [List.mem_singleton.1 hc]; exact .inr G2.out
          case measure => simp [intOf]; omega
        · have G := Lib.hid g
          have G2 := Lib.hid g2
          clear g g2
          go_wp2_with (first
            | (go_at_call 115; ((with_reducible refine (isLetter_any s[k] _).mono ?_); rintro e w' ⟨rfl, rfl⟩; rw [G.out]))
            | (go_at_call 114; ((with_reducible refine (isDigit_any s[k] _).mono ?_); rintro e w' ⟨rfl, rfl⟩; rw [G2.out])))
          go_ret
          refine ⟨ret_bool (Sv.pkg_no fun q => ?_).symm, rfl⟩
          have hl : k < s.data.toList.length := by rw [HL.out]; exact hlt
          have := q.2.2.1 s.data.toList[k] (List.getElem_mem hl)
          rw [HE.out k hlt, G.out, G2.out] at this
          rcases this with h | h <;> cases h
    · go_wp2
      go_ret
      obtain rfl : k = s.size := by omega
      refine ⟨ret_bool (Sv.pkg_yes ⟨fun e => ?_, by rw [HL.out]; exact h, ?_, fun c hc => ?_⟩).symm, rfl⟩
      · have := HL.out; rw [e] at this; simp at this; omega
      · have := HD.out; rwa [← HL.out, List.take_length] at this
      · rw [Sv.head_at (by rw [HL.out]; exact h0), HE.out 0 h0] at hc
        rw [← Option.some.inj hc]; exact H.out
theorem isPkg_any (s : ByteArray) (w : World) : Calls Tryz.prog 94 #[.string s] w fun e w' => e = .returned (.bool (Sv.pkgB s.data.toList)) ∧ w = w' := by
  by_cases h0 : 0 < s.size
  · by_cases h : s.size ≤ 20
    · rcases Bool.eq_false_or_eq_true (Sv.isDig s[0]) with hd | hd
      · refine (isPkg_dig s h0 h hd w).mono fun e w' ⟨he, hw⟩ => ⟨he.trans (ret_bool (Sv.pkg_no fun q => ?_).symm), hw⟩
        have := q.2.2.2 s[0] (by rw [Sv.head_at (by rw [data_len]; exact h0), data_at s 0 h0])
        rw [hd] at this; cases this
      · exact isPkg_loop s h0 h hd w
    · exact (isPkg_long s (by omega) w).mono fun e w' ⟨he, hw⟩ => ⟨he.trans (ret_bool (Sv.pkg_no fun q => by have := q.2.1; rw [data_len] at this; exact h this).symm), hw⟩
  · obtain rfl := empty_of (s := s) (by omega)
    exact (isPkg_none w).mono fun e w' ⟨he, hw⟩ => ⟨he.trans (ret_bool (Sv.pkg_no fun q => q.1 rfl).symm), hw⟩
end Go.Proofs.YtlbnaddgdgbckaaGreatDoor
/- The items of a module: what they are, in memory and as they are read. -/
namespace Go.Proofs.YtlbnaddgdgbckaaGreatDoor
open Go.RowKit
set_option linter.unusedSimpArgs false
set_option linter.unusedVariables false
structure ImpT where
  nm : ByteArray
  pkg : ByteArray
  v : Sv.V
structure TyD where
  n : ByteArray
  ps : List ByteArray
  cs : List (ByteArray × List Tm)
structure Ali where
  n : ByteArray
  ps : List ByteArray
  t : Tm
structure LetI where
  n : ByteArray
  ann : List Tm
  b : Tm
structure Exp where
  ty : Bool
  n : ByteArray
  ann : List Tm
structure Mod where
  im : List ImpT
  ty : List TyD
  al : List Ali
  le : List LetI
  ex : List Exp
/-- As they are read. -/
noncomputable def impP (E : Nat) (ts : Ts) : Res ImpT :=
  bnd (takeP E 2 ts) fun a ts => bnd (keyP E 8 sEq ts) fun _ ts => if Sv.pkgB (tx ts).data.toList then bnd (takeP E 1 ts) fun p ts => bnd (keyP E 8 sAt ts) fun _ ts => bnd (takeP E 6 ts) fun v ts => .ok (⟨a, p, (Sv.parseS v).1⟩, ts) else die E ts 10
def tydP (E : Nat) (ts : Ts) : Res TyD :=
  bnd (takeP E 1 ts) fun n ts => bnd (paramsP E ts) fun p ts => bnd (keyP E 8 sEq ts) fun _ ts => bnd (sevP E sBar (conIP E) ts) fun c ts => .ok (⟨n, p, c⟩, ts)
def aliP (E : Nat) (ts : Ts) : Res Ali :=
  bnd (takeP E 1 ts) fun n ts => bnd (paramsP E ts) fun p ts => bnd (keyP E 8 sEq ts) fun _ ts => bnd (typP E 40 ts) fun t ts => .ok (⟨n, p, t⟩, ts)
def letIP (E : Nat) (ts : Ts) : Res LetI :=
  bnd (takeP E 1 ts) fun n ts => bnd (annP E (typP E 40) ts) fun a ts => bnd (keyP E 8 sEq ts) fun _ ts => bnd (exprP E 40 ts) fun b ts => .ok (⟨n, a, b⟩, ts)
def expP (E : Nat) (ts : Ts) : Res Exp :=
  if isB 7 kType ts then bnd (takeP E 1 ts.tail) fun n ts => .ok (⟨true, n, []⟩, ts) else bnd (takeP E 1 ts) fun n ts => bnd (annP E (typP E 40) ts) fun a ts => .ok (⟨false, n, a⟩, ts)
/-- An item, put to a module; what ends it is not read. -/
noncomputable def itemP (E : Nat) (m : Mod) (ts : Ts) : Res Mod :=
  if isB 7 kImport ts then bnd (impP E ts.tail) fun x ts => .ok ({ m with im := m.im ++ [x] }, ts)
  else if isB 7 kType ts then bnd (tydP E ts.tail) fun x ts => .ok ({ m with ty := m.ty ++ [x] }, ts)
  else if isB 7 kAlias ts then bnd (aliP E ts.tail) fun x ts => .ok ({ m with al := m.al ++ [x] }, ts)
  else if isB 7 kLet ts then bnd (letIP E ts.tail) fun x ts => .ok ({ m with le := m.le ++ [x] }, ts)
  else if isB 7 kExport ts then bnd (expP E ts.tail) fun x ts => .ok ({ m with ex := m.ex ++ [x] }, ts)
  else die E ts 10
/-- In memory. -/
def impK : Mem ImpT where
  t := 23
  e := 62
  size := 5
  bytes := 56
  V _ _ cs a := cs = [.string a.nm, .string a.pkg, .int .i64 a.v.a, .int .i64 a.v.b, .int .i64 a.v.c] ∧ a.nm.size ≤ 4194304 ∧ a.pkg.size ≤ 4194304
  und := Tryz.underlying23
  inf := ⟨.agg #[.string ⟨#[]⟩, .string ⟨#[]⟩, .int .i64 0, .int .i64 0, .int .i64 0], by kernel_rfl, by kernel_rfl⟩
  pos := by decide
  few := by decide
  len := by rintro X w cs a ⟨rfl, _⟩; rfl
  one := by
    rintro X w cs a ⟨rfl, _⟩ u hu
    simp at hu
    rcases hu with rfl | rfl | rfl | rfl | rfl <;> rfl
  move := by rintro X Y w w' cs a hXY h; exact h
def tydK : Mem TyD where
  t := 24
  e := 66
  size := 3
  bytes := 64
  V X w cs a := ∃ p c, cs = [.string a.n, p, c] ∧ a.n.size ≤ 4194304 ∧ SlG strK X w p a.ps ∧ a.ps.length ≤ 7000 ∧ SlG conK X w c a.cs ∧ a.cs.length ≤ 7000
  und := Tryz.underlying24
  inf := ⟨.agg #[.string ⟨#[]⟩, .slice none 0 0, .slice none 0 0], by kernel_rfl, by kernel_rfl⟩
  pos := by decide
  few := by decide
  len := by rintro X w cs a ⟨p, c, rfl, _⟩; rfl
  one := by
    rintro X w cs a ⟨p, c, rfl, _, ⟨_, _, rfl, _⟩, _, ⟨_, _, rfl, _⟩, _⟩ u hu
    simp at hu
    rcases hu with rfl | rfl | rfl <;> rfl
  move := by
    rintro X Y w w' cs a hXY ⟨p, c, h0, h1, h2, h3, h4, h5⟩
    exact ⟨p, c, h0, h1, h2.move hXY, h3, h4.move hXY, h5⟩
def aliK : Mem Ali where
  t := 25
  e := 72
  size := 7
  bytes := 112
  V X w cs a := ∃ p k pp nn N s d, cs = [.string a.n, p, .int .i64 k, .string pp, .string nn, .int .i64 N, s] ∧ a.n.size ≤ 4194304 ∧ SlG strK X w p a.ps ∧ a.ps.length ≤ 7000 ∧ IsX X w d (tv k pp nn N s) a.t
  und := Tryz.underlying25
  inf := ⟨.agg #[.string ⟨#[]⟩, .slice none 0 0, .int .i64 0, .string ⟨#[]⟩, .string ⟨#[]⟩, .int .i64 0, .slice none 0 0], by kernel_rfl, by kernel_rfl⟩
  pos := by decide
  few := by decide
  len := by rintro X w cs a ⟨p, k, pp, nn, N, s, d, rfl, _⟩; rfl
  one := by
    rintro X w cs a ⟨p, k, pp, nn, N, s, d, rfl, _, ⟨_, _, rfl, _⟩, _, h⟩ u hu
    obtain ⟨_, _, _, _, _, _, _, h⟩ := h.shape
    cases h
    simp at hu
    rcases hu with rfl | rfl | rfl | rfl | rfl | rfl | rfl <;> rfl
  move := by
    rintro X Y w w' cs a hXY ⟨p, k, pp, nn, N, s, d, h0, h1, h2, h3, h4⟩
    exact ⟨p, k, pp, nn, N, s, d, h0, h1, h2.move hXY, h3, h4.move hXY⟩
def letIK : Mem LetI where
  t := 26
  e := 74
  size := 7
  bytes := 112
  V X w cs a := ∃ p k pp nn N s d, cs = [.string a.n, p, .int .i64 k, .string pp, .string nn, .int .i64 N, s] ∧ a.n.size ≤ 4194304 ∧ SlG termK X w p a.ann ∧ a.ann.length ≤ 7000 ∧ IsX X w d (tv k pp nn N s) a.b
  und := Tryz.underlying26
  inf := ⟨.agg #[.string ⟨#[]⟩, .slice none 0 0, .int .i64 0, .string ⟨#[]⟩, .string ⟨#[]⟩, .int .i64 0, .slice none 0 0], by kernel_rfl, by kernel_rfl⟩
  pos := by decide
  few := by decide
  len := by rintro X w cs a ⟨p, k, pp, nn, N, s, d, rfl, _⟩; rfl
  one := by
    rintro X w cs a ⟨p, k, pp, nn, N, s, d, rfl, _, ⟨_, _, rfl, _⟩, _, h⟩ u hu
    obtain ⟨_, _, _, _, _, _, _, h⟩ := h.shape
    cases h
    simp at hu
    rcases hu with rfl | rfl | rfl | rfl | rfl | rfl | rfl <;> rfl
  move := by
    rintro X Y w w' cs a hXY ⟨p, k, pp, nn, N, s, d, h0, h1, h2, h3, h4⟩
    exact ⟨p, k, pp, nn, N, s, d, h0, h1, h2.move hXY, h3, h4.move hXY⟩
def expK : Mem Exp where
  t := 27
  e := 76
  size := 3
  bytes := 48
  V X w cs a := ∃ p, cs = [.bool a.ty, .string a.n, p] ∧ a.n.size ≤ 4194304 ∧ SlG termK X w p a.ann ∧ a.ann.length ≤ 7000
  und := Tryz.underlying27
  inf := ⟨.agg #[.bool false, .string ⟨#[]⟩, .slice none 0 0], by kernel_rfl, by kernel_rfl⟩
  pos := by decide
  few := by decide
  len := by rintro X w cs a ⟨p, rfl, _⟩; rfl
  one := by
    rintro X w cs a ⟨p, rfl, _, ⟨_, _, rfl, _⟩, _⟩ u hu
    simp at hu
    rcases hu with rfl | rfl | rfl <;> rfl
  move := by
    rintro X Y w w' cs a hXY ⟨p, h0, h1, h2, h3⟩
    exact ⟨p, h0, h1, h2.move hXY, h3⟩
/-- Items as values. -/
def mk3 : List Value → Value
  | [a, b, c] => .agg #[a, b, c]
  | _ => undef
def mkI : List Value → Value
  | [a, b, x, y, z] => .agg #[a, b, x, y, z]
  | _ => undef
def mkT : List Value → Value
  | [a, b, k, p, n, N, s] => .agg #[a, b, k, p, n, N, s]
  | _ => undef
def ItV {α : Type} (K : Mem α) (mk : List Value → Value) (w w' : World) (v : Value) (a : α) : Prop := ∃ cs, v = mk cs ∧ K.V (New w) w' cs a
/-- Cells, written one behind the other. -/
def setL (W : World) (g : Nat) : Nat → List Value → World
  | _, [] => W
  | i, v :: vs => setL (W.setCell ⟨g, i, none⟩ v) g (i + 1) vs
theorem setL_other {g b : Nat} (hne : b ≠ g) : ∀ (vs : List Value) (i : Nat) (W : World), (setL W g i vs).heap[b]? = W.heap[b]?
  | [], _, _ => rfl
  | v :: vs, i, W => by
    show (setL (W.setCell ⟨g, i, none⟩ v) g (i + 1) vs).heap[b]? = _
    rw [setL_other hne vs, Below.heap_setCell _ _ _ _ hne]
theorem setL_rg {r g : Nat} {w : World} (hg : w.heap.size ≤ g) : ∀ (vs : List Value) (i : Nat) (W : World), Rg r w W → Rg r w (setL W g i vs)
  | [], _, _, h => h
  | v :: vs, i, W, h => setL_rg hg vs (i + 1) _ (h.set_new hg i v)
theorem setL_rd {r E g : Nat} {ts : Ts} (hr : r < g) : ∀ (vs : List Value) (i : Nat) (W : World), Rd r E W ts → Rd r E (setL W g i vs) ts
  | [], _, _, h => h
  | v :: vs, i, W, h => setL_rd hr vs (i + 1) _ (h.set_new hr i v)
theorem set3 {W : World} {g : Nat} {c0 c1 c2 : Value} {T : TypeId} {f : Nat × Nat} (h : W.heap[g]? = some (.cells #[c0, c1, c2] T f)) (d0 d1 d2 : Value) : (setL W g 0 [d0, d1, d2]).heap[g]? = some (.cells #[d0, d1, d2] T f) :=
  hb_set_same (hb_set_same (hb_set_same h 0 _) 1 _) 2 _
theorem setL5 {W : World} {g : Nat} {c0 c1 c2 c3 c4 : Value} {T : TypeId} {f : Nat × Nat} (h : W.heap[g]? = some (.cells #[c0, c1, c2, c3, c4] T f)) (d0 d1 d2 d3 d4 : Value) : (setL W g 0 [d0, d1, d2, d3, d4]).heap[g]? = some (.cells #[d0, d1, d2, d3, d4] T f) :=
  hb_set_same (hb_set_same (hb_set_same (hb_set_same (hb_set_same h 0 _) 1 _) 2 _) 3 _) 4 _
theorem set7 {W : World} {g : Nat} {c0 c1 c2 c3 c4 c5 c6 : Value} {T : TypeId} {f : Nat × Nat} (h : W.heap[g]? = some (.cells #[c0, c1, c2, c3, c4, c5, c6] T f)) (d0 d1 d2 d3 d4 d5 d6 : Value) : (setL W g 0 [d0, d1, d2, d3, d4, d5, d6]).heap[g]? = some (.cells #[d0, d1, d2, d3, d4, d5, d6] T f) :=
  by
  have h0 : (W.setCell ⟨g, 0, none⟩ d0).heap[g]? = some (.cells #[d0, c1, c2, c3, c4, c5, c6] T f) := hb_set_same h 0 _
  have h1 : ((W.setCell ⟨g, 0, none⟩ d0).setCell ⟨g, 1, none⟩ d1).heap[g]? = some (.cells #[d0, d1, c2, c3, c4, c5, c6] T f) := hb_set_same h0 1 _
  have h2 : (((W.setCell ⟨g, 0, none⟩ d0).setCell ⟨g, 1, none⟩ d1).setCell ⟨g, 2, none⟩ d2).heap[g]? = some (.cells #[d0, d1, d2, c3, c4, c5, c6] T f) := hb_set_same h1 2 _
  have h3 : ((((W.setCell ⟨g, 0, none⟩ d0).setCell ⟨g, 1, none⟩ d1).setCell ⟨g, 2, none⟩ d2).setCell ⟨g, 3, none⟩ d3).heap[g]? = some (.cells #[d0, d1, d2, d3, c4, c5, c6] T f) := hb_set_same h2 3 _
  have h4 : (((((W.setCell ⟨g, 0, none⟩ d0).setCell ⟨g, 1, none⟩ d1).setCell ⟨g, 2, none⟩ d2).setCell ⟨g, 3, none⟩ d3).setCell ⟨g, 4, none⟩ d4).heap[g]? = some (.cells #[d0, d1, d2, d3, d4, c5, c6] T f) := hb_set_same h3 4 _
  have h5 : ((((((W.setCell ⟨g, 0, none⟩ d0).setCell ⟨g, 1, none⟩ d1).setCell ⟨g, 2, none⟩ d2).setCell ⟨g, 3, none⟩ d3).setCell ⟨g, 4, none⟩ d4).setCell ⟨g, 5, none⟩ d5).heap[g]? = some (.cells #[d0, d1, d2, d3, d4, d5, c6] T f) := hb_set_same h4 5 _
  have h6 : (((((((W.setCell ⟨g, 0, none⟩ d0).setCell ⟨g, 1, none⟩ d1).setCell ⟨g, 2, none⟩ d2).setCell ⟨g, 3, none⟩ d3).setCell ⟨g, 4, none⟩ d4).setCell ⟨g, 5, none⟩ d5).setCell ⟨g, 6, none⟩ d6).heap[g]? = some (.cells #[d0, d1, d2, d3, d4, d5, d6] T f) := hb_set_same h5 6 _
  exact h6
/-- The end of a reader of an item. -/
theorem fin_it {α : Type} {K : Mem α} {mk : List Value → Value} {fn : Func} {a : Act} (hd : a.defers = []) {r E g nb : Nat} {w W : World} {ts : Ts} {x : α} {S : Res α} {cs : List Value} {T : TypeId}
    (hres : ∀ W', W'.heap[g]? = some (.cells cs.toArray T (0, 0)) → (results fn a.tmps).run Tryz.prog W' = .ok (mk cs) W') (hbox : (setL W g 0 cs).heap[g]? = some (.cells cs.toArray T (0, 0))) (hg : w.heap.size ≤ g) (hG : Rg r w W) (hr : r < w.heap.size) (hR : Rd r E W ts) (hS : S = .ok (x, ts))
    (hnb : g < nb) (h0 : w.heap.size ≤ nb) (hV : K.V (fun b => nb ≤ b) W cs x) :
    bodyPost Tryz.prog fn (Got r E (ItV K mk) w S) Exit.ret a (setL W g 0 cs) := by
  have h1 := setL_rg hg cs 0 W hG
  have h2 := setL_rd (g := g) (by omega) cs 0 W hR
  have h3 : K.V (fun b => w.heap.size ≤ b) (setL W g 0 cs) cs x := K.move (fun b hb _ => ⟨by omega, setL_other (by omega) _ _ _⟩) hV
  have h4 := hres _ hbox
  generalize setL W g 0 cs = W2 at *
  subst hS
  refine bodyPost_ret (v := mk cs) h4 hd ⟨h1, ⟨mk cs, rfl, cs, rfl, h3⟩, h2⟩
theorem boxes_of {w w' : World} (h : Below w.heap.size w w') : w.heap.size ≤ w'.heap.size := h.size
set_option maxRecDepth 100000 in
theorem res_imp {tmps : Array Value} {g : Nat} (h : tmps[2]?.getD undef = bp g) {w : World} {c0 c1 c2 c3 c4 : Value} {t : TypeId} {f : Nat × Nat} (hb : w.heap[g]? = some (.cells #[c0, c1, c2, c3, c4] t f)) :
    (results Tryz.f60 tmps).run Tryz.prog w = .ok (mkI [c0, c1, c2, c3, c4]) w := by
  have x0 := hb_at hb 0 rfl
  have x1 := hb_at hb 1 rfl
  have x2 := hb_at hb 2 rfl
  have x3 := hb_at hb 3 rfl
  have x4 := hb_at hb 4 rfl
  simp [results, Tryz.results60, h, go_sem, Tryz.isAgg62, Tryz.isAgg60, Tryz.isAgg58, Tryz.isAgg3, Tryz.isAgg9, mkI, x0, x1, x2, x3, x4]
theorem res_tyd {tmps : Array Value} {g : Nat} (h : tmps[2]?.getD undef = bp g) {w : World} {c0 c1 c2 : Value} {t : TypeId} {f : Nat × Nat} (hb : w.heap[g]? = some (.cells #[c0, c1, c2] t f)) :
    (results Tryz.f61 tmps).run Tryz.prog w = .ok (mk3 [c0, c1, c2]) w := by
  have x0 := hb_at hb 0 rfl
  have x1 := hb_at hb 1 rfl
  have x2 := hb_at hb 2 rfl
  simp [results, Tryz.results61, h, go_sem, Tryz.isAgg66, mk3, x0, x1, x2]
theorem res_ali {tmps : Array Value} {g : Nat} (h : tmps[2]?.getD undef = bp g) {w : World} {c0 c1 c2 c3 c4 c5 c6 : Value} {t : TypeId} {f : Nat × Nat} (hb : w.heap[g]? = some (.cells #[c0, c1, c2, c3, c4, c5, c6] t f)) :
    (results Tryz.f62 tmps).run Tryz.prog w = .ok (mkT [c0, c1, c2, c3, c4, c5, c6]) w := by
  have x0 := hb_at hb 0 rfl
  have x1 := hb_at hb 1 rfl
  have x2 := hb_at hb 2 rfl
  have x3 := hb_at hb 3 rfl
  have x4 := hb_at hb 4 rfl
  have x5 := hb_at hb 5 rfl
  have x6 := hb_at hb 6 rfl
  simp [results, Tryz.results62, h, go_sem, Tryz.isAgg72, Tryz.isAgg39, Tryz.isAgg9, mkT, x0, x1, x2, x3, x4, x5, x6]
theorem res_let {tmps : Array Value} {g : Nat} (h : tmps[2]?.getD undef = bp g) {w : World} {c0 c1 c2 c3 c4 c5 c6 : Value} {t : TypeId} {f : Nat × Nat} (hb : w.heap[g]? = some (.cells #[c0, c1, c2, c3, c4, c5, c6] t f)) :
    (results Tryz.f63 tmps).run Tryz.prog w = .ok (mkT [c0, c1, c2, c3, c4, c5, c6]) w := by
  have x0 := hb_at hb 0 rfl
  have x1 := hb_at hb 1 rfl
  have x2 := hb_at hb 2 rfl
  have x3 := hb_at hb 3 rfl
  have x4 := hb_at hb 4 rfl
  have x5 := hb_at hb 5 rfl
  have x6 := hb_at hb 6 rfl
  simp [results, Tryz.results63, h, go_sem, Tryz.isAgg74, Tryz.isAgg39, Tryz.isAgg9, mkT, x0, x1, x2, x3, x4, x5, x6]
theorem res_exp {tmps : Array Value} {g : Nat} (h : tmps[2]?.getD undef = bp g) {w : World} {c0 c1 c2 : Value} {t : TypeId} {f : Nat × Nat} (hb : w.heap[g]? = some (.cells #[c0, c1, c2] t f)) :
    (results Tryz.f64 tmps).run Tryz.prog w = .ok (mk3 [c0, c1, c2]) w := by
  have x0 := hb_at hb 0 rfl
  have x1 := hb_at hb 1 rfl
  have x2 := hb_at hb 2 rfl
  simp [results, Tryz.results64, h, go_sem, Tryz.isAgg76, mk3, x0, x1, x2]
end Go.Proofs.YtlbnaddgdgbckaaGreatDoor
