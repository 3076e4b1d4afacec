/- The texts Ga, Gb, Gc, Gd, Ge, one behind the other. -/
import Derived.Test.YtmfphnhdahaooaaM05
import Derived.Maps.OwnSet
import Derived.Maps.OwnOps
import Derived.Maps.RangeWalk
import Derived.Maps.StringElems
import Derived.Test.YtmfphnhdahaooaaM01
import Derived.BigQuiet
import Derived.Deep.QuietTactic
import Derived.Deep.RegionWith
import Derived.StillTailTactics
import Derived.Test.YtmfphnhdahaooaaM04
import Derived.Deep.RegionLaw
import Derived.Deep.DeepCutAuto
set_option linter.unusedSimpArgs false
set_option linter.unusedVariables false
/- Maps of names, seen as functions from names to blocks: look-ups, stores, deletes. -/
namespace Go.Proofs.Ytmfphnhdahaooaa
open Go.RowKit Go.Maps

def ptrR (v : Value) : Option (DataW Unit × List MemPlace) :=
  match v with
  | .pointer none => some (.lit (.int .i64 (-1)), [])
  | .pointer (some ⟨X, 0, none⟩) => some (.lit (.int .i64 (X : Nat)), [])
  | _ => none

theorem ptrR_shape {v : Value} {y : DataW Unit × List MemPlace} (h : ptrR v = some y) : (v = .pointer none ∧ y = (.lit (.int .i64 (-1)), [])) ∨ ∃ X : Nat, v = .pointer (some ⟨X, 0, none⟩) ∧ y = (.lit (.int .i64 (X : Nat)), []) := by
  unfold ptrR at h
  split at h
  · exact .inl ⟨rfl, (Option.some.inj h).symm⟩
  · exact .inr ⟨_, rfl, (Option.some.inj h).symm⟩
  · cases h
theorem ptrR_some {v : Value} {X : Nat} {ps : List MemPlace} (h : ptrR v = some (.lit (.int .i64 (X : Nat)), ps)) : v = .pointer (some ⟨X, 0, none⟩) := by
  rcases ptrR_shape h with ⟨_, h2⟩ | ⟨Y, h1, h2⟩
  · simp at h2
  · simp at h2
    have e : X = Y := by omega
    rw [h1, e]
theorem ptrR_none {v : Value} {ps : List MemPlace} (h : ptrR v = some (.lit (.int .i64 (-1)), ps)) : v = .pointer none := by
  rcases ptrR_shape h with ⟨h1, _⟩ | ⟨Y, h1, h2⟩
  · exact h1
  · simp at h2

theorem K9 : Maps.Keyed Try.prog 9 := Maps.string_keyed Try.underlying9
theorem key9 (s : ByteArray) (h : s.size ≤ maxLen) : keyOf Try.prog 9 (.string s) = some (.string s.data.toList) := by
  simp [keyOf, Try.underlying9, mapKey, h]
theorem name_eq {s t : ByteArray} (h : s.data.toList = t.data.toList) : s = t := by
  cases s; cases t
  simpa using h

def isAt (D : DataW Unit) (s : ByteArray) (r : Option Nat) : Prop :=
  match r with
  | some X => Maps.has D (.string s.data.toList) = true ∧ ∀ z, D.atKey (.string s.data.toList) z = .lit (.int .i64 (X : Nat))
  | none => Maps.has D (.string s.data.toList) = false

def NameMap (w : World) (N n : Nat) (g : ByteArray → Option Nat) : Prop :=
  ∃ D : DataW Unit, w.ownsMap Try.prog 9 ptrR N n D ∧ ∀ s, isAt D s (g s)

def nmRes (c : Bool) (r : Option Nat) : Value :=
  match r with
  | some X => if c then .tuple #[.pointer (some ⟨X, 0, none⟩), .bool true] else .pointer (some ⟨X, 0, none⟩)
  | none => if c then .tuple #[.pointer none, .bool false] else .pointer none

section
variable {w w' : World} {N n : Nat} {g : ByteArray → Option Nat}
theorem NameMap.lt (h : NameMap w N n g) : N < w.heap.size := h.elim fun _ h => h.1.lt
theorem NameMap.heap (h : NameMap w N n g) : ∃ es clock, w.heap[N]? = some (.map es clock) := by
  obtain ⟨D, ⟨es, clock, hb, _⟩, _⟩ := h
  exact ⟨es, clock, hb⟩
theorem NameMap.mono (h : NameMap w N n g) {m : Nat} (hm : n ≤ m) : NameMap w N m g := h.elim fun D h => ⟨D, h.1.mono hm, h.2⟩
theorem NameMap.same (h : NameMap w N n g) (hb : w'.heap[N]? = w.heap[N]?) : NameMap w' N n g := by
  obtain ⟨D, ⟨es, clock, h1, h2⟩, h3⟩ := h
  exact ⟨D, ⟨es, clock, hb.trans h1, h2⟩, h3⟩
theorem NameMap.kept (h : NameMap w N n g) (hk : ∀ x, w.heap[N]? = some x → w'.heap[N]? = some x) : NameMap w' N n g := by
  obtain ⟨es, clock, hb⟩ := h.heap
  exact h.same ((hk _ hb).trans hb.symm)
theorem NameMap.made (w : World) : NameMap (w.alloc (.map #[] 0)) w.heap.size 0 fun _ => none :=
  ⟨_, World.ownsMap_made w _ _ _, fun _ => rfl⟩

theorem NameMap.look (h : NameMap w N n g) (c : Bool) (s : ByteArray) (hs : s.size ≤ maxLen) (r : Option Nat) (hr : g s = r) : (Instr.lookup 79 (.map (some N)) (.string s) c).run Try.prog w = .ok (nmRes c r) w := by
  obtain ⟨D, hD, hg⟩ := h
  have h1 := hg s
  rw [hr] at h1
  cases c with
  | false =>
    obtain ⟨v, ps, hrun, hv⟩ := hD.lookup K9 Try.underlying79 (zero78 w) (zd := .lit (.int .i64 (-1))) (zp := []) rfl (key9 s hs)
    rw [hrun]
    cases r with
    | none =>
      rw [atKey_of_not_has h1] at hv
      rw [ptrR_none hv]
      rfl
    | some X =>
      rw [h1.2] at hv
      rw [ptrR_some hv]
      rfl
  | true =>
    obtain ⟨v, ps, hrun, hv⟩ := hD.look_ok K9 Try.underlying79 (zero78 w) (zd := .lit (.int .i64 (-1))) (zp := []) rfl (key9 s hs)
    rw [hrun]
    cases r with
    | none =>
      rw [atKey_of_not_has h1] at hv
      rw [ptrR_none hv, show Maps.has D (.string s.data.toList) = false from h1]
      rfl
    | some X =>
      rw [h1.2] at hv
      rw [ptrR_some hv, h1.1]
      rfl

def upN (g : ByteArray → Option Nat) (s : ByteArray) (r : Option Nat) : ByteArray → Option Nat := fun t => if t = s then r else g t

theorem lit_ne {s t : ByteArray} (h : t ≠ s) : (Lit.string t.data.toList) ≠ Lit.string s.data.toList := fun e => h (name_eq (by simpa using e))

theorem NameMap.put (h : NameMap w N n g) (hn : n < maxLen) (s : ByteArray) (hs : s.size ≤ maxLen) (X : Nat) :
    ∃ w', (Instr.mapUpdate 79 (.map (some N)) (.string s) (.pointer (some ⟨X, 0, none⟩))).run Try.prog w = .ok () w' ∧ NameMap w' N (n + 1) (upN g s (some X)) ∧ w.mapTurned w' N := by
  obtain ⟨D, hD, hg⟩ := h
  obtain ⟨w', hrun, h1, h2⟩ := hD.store K9 Try.underlying79 hn (val := .pointer (some ⟨X, 0, none⟩)) (d := .lit (.int .i64 (X : Nat))) (ps := []) (key9 s hs) rfl
  refine ⟨w', hrun, ⟨_, h1, fun t => ?_⟩, h2⟩
  have hM : Maps.IsMap D := hD.isMap
  have hK : WideAt.IsKeyLit (.string s.data.toList) := trivial
  unfold upN
  by_cases e : t = s
  · rw [if_pos e, e]
    exact ⟨has_put_same hM hK _, fun z => atKey_put_same hM hK _ _⟩
  · rw [if_neg e]
    have h3 := hg t
    cases hr : g t with
    | none =>
      rw [hr] at h3
      exact (has_put_other (lit_ne e) _).trans h3
    | some Y =>
      rw [hr] at h3
      exact ⟨(has_put_other (lit_ne e) _).trans h3.1, fun z => (atKey_put_other (lit_ne e) _ _).trans (h3.2 z)⟩

theorem NameMap.del (h : NameMap w N n g) (s : ByteArray) (hs : s.size ≤ maxLen) (ty : TypeId) :
    ∃ w', (Builtin.delete_ #[79, 9] ty #[.map (some N), .string s]).run Try.prog w = .ok (.tuple #[]) w' ∧ NameMap w' N n (upN g s none) ∧ w.mapTurned w' N := by
  obtain ⟨D, hD, hg⟩ := h
  obtain ⟨w', hrun, h1, h2⟩ := hD.drop K9 Try.underlying79 (key9 s hs) ty
  refine ⟨w', hrun, ⟨_, h1, fun t => ?_⟩, h2⟩
  unfold upN
  by_cases e : t = s
  · rw [if_pos e, e]
    exact has_del_same
  · rw [if_neg e]
    have h3 := hg t
    cases hr : g t with
    | none =>
      rw [hr] at h3
      exact (has_del_other (lit_ne e)).trans h3
    | some Y =>
      rw [hr] at h3
      exact ⟨(has_del_other (lit_ne e)).trans h3.1, fun z => (atKey_del_other (lit_ne e) _).trans (h3.2 z)⟩
end

section
variable (w : World) {ops : Array Oper} {rest : List Oper} {o : Oper} {a : Act} {Q : Exit → Act → World → Prop} {N n : Nat} {g : ByteArray → Option Nat}
theorem wpList_nm_look (hg : o.guard = none) (m x : Operand) (c : Bool) (hop : o.op = Op.lookup 79 m x c) (hm : a.eval m = .map (some N)) (h : NameMap w N n g) (s : ByteArray) (hx : a.eval x = .string s) (hs : s.size ≤ maxLen)
    (r : Option Nat) (hr : g s = r) (res : Value) (he : nmRes c r = res) (hK : wpList Try.prog ops Q rest (a.put o.dst res) w) : wpList Try.prog ops Q (o :: rest) a w := by
  refine wpList_plain hg fun K' hK' => ?_
  unfold Oper.wp
  simp [execOp, hop, hm, hx, h.look c s hs r hr, Result.andThen]
  rw [he]
  exact hK' _ _ hK
theorem wpList_nm_put (hg : o.guard = none) (m x v : Operand) (hop : o.op = Op.mapUpdate 79 m x v) (hm : a.eval m = .map (some N)) (h : NameMap w N n g) (hn : n < maxLen) (s : ByteArray) (hx : a.eval x = .string s) (hs : s.size ≤ maxLen) (X : Nat)
    (hv : a.eval v = .pointer (some ⟨X, 0, none⟩)) (hK : ∀ w', NameMap w' N (n + 1) (upN g s (some X)) → w.mapTurned w' N → wpList Try.prog ops Q rest (a.put o.dst undef) w') : wpList Try.prog ops Q (o :: rest) a w := by
  refine wpList_plain hg fun K' hK' => ?_
  obtain ⟨w', hrun, h1, h2⟩ := h.put hn s hs X
  unfold Oper.wp
  simp [execOp, hop, hm, hx, hv, hrun, Result.andThen]
  exact hK' _ _ (hK w' h1 h2)
theorem wpList_nm_del (hg : o.guard = none) (m x : Operand) (hop : o.op = Op.call { callee := Callee.builtin Builtin.delete, args := #[m, x], argTypes := #[79, 9] }) (hm : a.eval m = .map (some N)) (h : NameMap w N n g) (s : ByteArray) (hx : a.eval x = .string s) (hs : s.size ≤ maxLen)
    (hK : ∀ w', NameMap w' N n (upN g s none) → w.mapTurned w' N → wpList Try.prog ops Q rest (a.put o.dst (.tuple #[])) w') : wpList Try.prog ops Q (o :: rest) a w := by
  refine wpList_plain hg fun K' hK' => ?_
  obtain ⟨w', hrun, h1, h2⟩ := h.del s hs o.type
  unfold Oper.wp
  simp [execOp, hop, resolve, invoke, builtin, hm, hx, hrun, Result.andThen]
  exact hK' _ _ (hK w' h1 h2)
end
end Go.Proofs.Ytmfphnhdahaooaa
/- Any text: is it a name? A step of any store; what Fail and Power leave. -/
namespace Go.Proofs.Ytmfphnhdahaooaa
open Go.RowKit

def NameI (c : Int) : Prop := 97 ≤ c ∧ c ≤ 122 ∨ 48 ≤ c ∧ c ≤ 57 ∨ c = 46 ∨ c = 45
instance (c : Int) : Decidable (NameI c) := by unfold NameI; infer_instance

theorem byte_yes (c : Int) (w : World) (h : NameI c) : Calls Try.prog 69 #[.int .u8 c] w fun e w' => e = .returned (.bool true) ∧ w = w' := by
  rcases h with ⟨h1, h2⟩ | ⟨h1, h2⟩ | rfl | rfl
  · exact nameByte_letter c w h1 h2
  · exact nameByte_digit c w h1 h2
  · go_enter Try.func69, Try.ntmps69
    go_wp2
    go_ret
    exact ⟨rfl, rfl⟩
  · go_enter Try.func69, Try.ntmps69
    go_wp2
    go_ret
    exact ⟨rfl, rfl⟩
theorem byte_no (c : Int) (w : World) (h : ¬ NameI c) : Calls Try.prog 69 #[.int .u8 c] w fun e w' => e = .returned (.bool false) ∧ w = w' := by
  have h46 : (c == 46) = false := by simp; intro e; exact h (by unfold NameI; omega)
  have h45 : (c == 45) = false := by simp; intro e; exact h (by unfold NameI; omega)
  have hc : c < 48 ∨ (57 < c ∧ c < 97) ∨ 122 < c := by unfold NameI at h; omega
  clear h
  rcases hc with h1 | ⟨h1, h2⟩ | h1
  · have h2 : ¬ 97 ≤ c := by omega
    have h3 : ¬ 48 ≤ c := by omega
    go_enter Try.func69, Try.ntmps69
    go_wp2
    go_ret
    exact ⟨rfl, rfl⟩
  · have h3 : ¬ 97 ≤ c := by omega
    have h4 : 48 ≤ c := by omega
    have h5 : ¬ c ≤ 57 := by omega
    go_enter Try.func69, Try.ntmps69
    go_wp2
    go_ret
    exact ⟨rfl, rfl⟩
  · have h3 : 97 ≤ c := by omega
    have h4 : ¬ c ≤ 122 := by omega
    have h5 : 48 ≤ c := by omega
    have h6 : ¬ c ≤ 57 := by omega
    go_enter Try.func69, Try.ntmps69
    go_wp2
    go_ret
    exact ⟨rfl, rfl⟩

def NameP (s : ByteArray) : Prop := 1 ≤ s.size ∧ s.size ≤ 30 ∧ ∀ (k : Nat) (hk : k < s.size), NameI (s[k].toNat : Int)
theorem NameP.small {s : ByteArray} (h : NameP s) : s.size ≤ maxLen := by have := h.2.1; unfold maxLen; omega

set_option maxHeartbeats 400000 in
theorem isName_yes (s : ByteArray) (w : World) (h : NameP s) : Calls Try.prog 48 #[.string s] w fun e w' => e = .returned (.bool true) ∧ w = w' := by
  obtain ⟨h1, h2, hs⟩ := h
  have hS := Lib.hid hs
  clear hs
  go_enter Try.func48, Try.ntmps48
  go_wp2
  go_loop [14] (fun i => ∃ k : Nat, k ≤ s.size ∧ i = .int .i64 k) (fun i => s.size - (intOf i).toNat)
  case atStart => exact ⟨0, Nat.zero_le _, rfl⟩
  case round =>
    obtain ⟨k, hk, rfl⟩ := hrel
    by_cases hlt : k < s.size
    · have hB := Lib.hid (hS.out k hlt)
      go_wp2_with (first | (go_at_call 69; refine (byte_yes _ _ hB.out).mono ?_; rintro e w' ⟨rfl, rfl⟩) | go_in)
      go_round
      case rel => exact ⟨k + 1, by omega, by go_num⟩
      case measure => simp [intOf]; omega
    · go_wp2
      go_ret
      exact ⟨rfl, rfl⟩

set_option maxHeartbeats 400000 in
theorem isName_no (s : ByteArray) (w : World) (hmx : s.size ≤ maxLen) (h : ¬ NameP s) : Calls Try.prog 48 #[.string s] w fun e w' => e = .returned (.bool false) ∧ w = w' := by
  unfold maxLen at hmx
  by_cases h1 : s.size < 1
  · clear h
    go_enter Try.func48, Try.ntmps48
    go_wp2
    go_ret
    exact ⟨rfl, rfl⟩
  by_cases h2 : 30 < s.size
  · clear h
    have h3 : ¬ (s.size : Int) < 1 := by omega
    have h4 : (30 : Int) < (s.size : Int) := by omega
    go_enter Try.func48, Try.ntmps48
    go_wp2
    go_ret
    exact ⟨rfl, rfl⟩
  have hall : ¬ ∀ (k : Nat) (hk : k < s.size), NameI (s[k].toNat : Int) := fun hs => h ⟨by omega, by omega, hs⟩
  have hA := Lib.hid hall
  have h3 : ¬ (s.size : Int) < 1 := by omega
  have h4 : (s.size : Int) ≤ 30 := by omega
  clear h hall h1 h2
  go_enter Try.func48, Try.ntmps48
  go_wp2
  go_loop [14] (fun i => ∃ k : Nat, k ≤ s.size ∧ i = .int .i64 k ∧ Hid (∀ (i : Nat) (hi : i < s.size), i < k → NameI (s[i].toNat : Int))) (fun i => s.size - (intOf i).toNat)
  case atStart => exact ⟨0, Nat.zero_le _, rfl, Lib.hid fun i _ hi => absurd hi (by omega)⟩
  case round =>
    obtain ⟨k, hk, rfl, hP⟩ := hrel
    by_cases hlt : k < s.size
    · by_cases hc : NameI (s[k].toNat : Int)
      · have hB := Lib.hid hc
        clear hc
        go_wp2_with (first | (go_at_call 69; refine (byte_yes _ _ hB.out).mono ?_; rintro e w' ⟨rfl, rfl⟩) | go_in)
        go_round
        case rel =>
          refine ⟨k + 1, by omega, by go_num, Lib.hid fun i hi hik => ?_⟩
          by_cases e : i = k
          · subst e; exact hB.out
          · exact hP.out i hi (by omega)
        case measure => simp [intOf]; omega
      · have hB := Lib.hid hc
        clear hc
        go_wp2_with (first | (go_at_call 69; refine (byte_no _ _ hB.out).mono ?_; rintro e w' ⟨rfl, rfl⟩) | go_in)
        go_ret
        exact ⟨rfl, rfl⟩
    · exact absurd (fun i hi => hP.out i hi (by omega)) hA.out

def near (n : Int) : Int := if n < 0 then n else n - 1
theorem nearer_any (n : Int) (w : World) (hn : n ≤ 9223372036854775807) : Calls Try.prog 68 #[.int .i64 n] w fun e w' => e = .returned (.int .i64 (near n)) ∧ w = w' := by
  by_cases h : n < 0
  · have e : near n = n := if_pos h
    rw [e]
    clear e
    go_enter Try.func68, Try.ntmps68
    go_wp2
    go_ret
    exact ⟨rfl, rfl⟩
  · have e : near n = n - 1 := if_neg h
    rw [e]
    clear e
    have h2 : 0 ≤ n := by omega
    go_enter Try.func68, Try.ntmps68
    go_wp2
    go_ret
    exact ⟨rfl, rfl⟩
end Go.Proofs.Ytmfphnhdahaooaa
/- A step of any store. -/
namespace Go.Proofs.Ytmfphnhdahaooaa
open Go.RowKit

def fsC (cap used : Int) (N L : Nat) (tv : Value) (fail pow : Int) (off : Bool) : Array Value := #[.int .i64 cap, .int .i64 used, .map (some N), .map (some L), tv, .int .i64 fail, .int .i64 pow, .bool off]

def stepC (fail pow : Int) (off : Bool) : Int := if (off || pow == 0) = true then 7 else if (fail == 0) = true then 6 else 0

theorem grown_at (w : World) (F i : Nat) (v : Value) : w.grownBy (w.setCell ⟨F, i, none⟩ v) (some F) := grown_set w ⟨F, i, none⟩ v
structure Stepped (F : Nat) (cap used : Int) (N L : Nat) (tv : Value) (fail pow : Int) (off : Bool) (w w' : World) : Prop where
  store : w'.heap[F]? = some (.cells (fsC cap used N L tv (near fail) (near pow) (off || pow == 0)) 82 (0, 0))
  grown : w.grownBy w' (some F)
  size : w'.heap.size = w.heap.size

theorem stepped_mk {F : Nat} {cap used : Int} {N L : Nat} {tv : Value} {fail pow : Int} {off : Bool} {w : World} (hF : w.heap[F]? = some (.cells (fsC cap used N L tv fail pow off) 82 (0, 0))) (n : Nat) {a b : Value} {c : Value}
    (ha : a = .int .i64 (near fail)) (hb : b = .int .i64 (near pow)) (hc : c = .bool (off || pow == 0)) : Stepped F cap used N L tv fail pow off w (((((w.drewN n).setCell ⟨F, 5, none⟩ a).setCell ⟨F, 6, none⟩ b).setCell ⟨F, 7, none⟩ c)) := by
  subst ha hb hc
  refine ⟨?_, ?_, by simp [World.setCell]⟩
  · have h1 := hb_set_same (w := w.drewN n) hF 5 (.int .i64 (near fail))
    have h2 := hb_set_same h1 6 (.int .i64 (near pow))
    have h3 := hb_set_same h2 7 (.bool (off || pow == 0))
    exact h3
  · exact grown_undrewN (n := n) (World.grownBy.trans (World.grownBy.trans (grown_at (w.drewN n) F 5 _) (grown_at _ F 6 _)) (grown_at _ F 7 _))

theorem stepped_mk2 {F : Nat} {cap used : Int} {N L : Nat} {tv : Value} {fail pow : Int} {off : Bool} {w : World} (hF : w.heap[F]? = some (.cells (fsC cap used N L tv fail pow off) 82 (0, 0))) (n : Nat) {a b : Value} {c : Value}
    (ha : a = .int .i64 (near fail)) (hb : b = .int .i64 (near pow)) (hc : c = .bool (off || pow == 0)) : Stepped F cap used N L tv fail pow off w (((((w.drewN n).setCell ⟨F, 6, none⟩ b).setCell ⟨F, 5, none⟩ a).setCell ⟨F, 7, none⟩ c)) := by
  subst ha hb hc
  refine ⟨?_, ?_, by simp [World.setCell]⟩
  · have h1 := hb_set_same (w := w.drewN n) hF 6 (.int .i64 (near pow))
    have h2 := hb_set_same h1 5 (.int .i64 (near fail))
    have h3 := hb_set_same h2 7 (.bool (off || pow == 0))
    exact h3
  · exact grown_undrewN (n := n) (World.grownBy.trans (World.grownBy.trans (grown_at (w.drewN n) F 6 _) (grown_at _ F 5 _)) (grown_at _ F 7 _))

set_option maxHeartbeats 2000000 in
theorem step_any (F : Nat) (cap used : Int) (N L : Nat) (tv : Value) (fail pow : Int) (off : Bool) (w : World) (hF : w.heap[F]? = some (.cells (fsC cap used N L tv fail pow off) 82 (0, 0))) (hf : fail ≤ 9223372036854775807) (hp : pow ≤ 9223372036854775807) :
    Calls Try.prog 44 #[.pointer (some ⟨F, 0, none⟩)] w fun e w' => e = .returned (.int .i64 (stepC fail pow off)) ∧ Stepped F cap used N L tv fail pow off w w' := by
  have c5 : w.cell? ⟨F, 5, none⟩ = some (.int .i64 fail) := hb_at hF 5 rfl
  have c6 : w.cell? ⟨F, 6, none⟩ = some (.int .i64 pow) := hb_at hF 6 rfl
  have c7 : w.cell? ⟨F, 7, none⟩ = some (.bool off) := hb_at hF 7 rfl
  have f5 := hb_free hF 5
  have f6 := hb_free hF 6
  have f7 := hb_free hF 7
  have HF := Lib.hid hF
  clear hF
  go_enter Try.func44, Try.ntmps44
  go_wp2
  go_quiet (fail)
  go_wp2
  go_region_with (go_at_call 68; with_reducible refine (nearer_any _ _ (by assumption)).mono ?_; rintro e w' ⟨rfl, rfl⟩)
  all_goals
    have e5 : (fail == 0) = true ∨ (fail == 0) = false := by cases (fail == 0) <;> simp
    have e6 : (pow == 0) = true ∨ (pow == 0) = false := by cases (pow == 0) <;> simp
    rcases e5 with e5 | e5 <;> rcases e6 with e6 | e6 <;> cases off
  all_goals
    go_wp2
    go_ret
    refine ⟨?_, ?_⟩
    · first
        | (rw [show stepC fail pow _ = 7 from by simp [stepC, e5, e6]]; rfl)
        | (rw [show stepC fail pow _ = 6 from by simp [stepC, e5, e6]]; rfl)
        | (rw [show stepC fail pow _ = 0 from by simp [stepC, e5, e6]]; rfl)
    · first
        | exact stepped_mk HF.out _ rfl rfl (by simp [e6])
        | exact stepped_mk2 HF.out _ rfl rfl (by simp [e6])
end Go.Proofs.Ytmfphnhdahaooaa
/- Turns on any directory: a name comes, goes, becomes another one. -/
namespace Go.Proofs.Ytmfphnhdahaooaa
open Go.RowKit Go.Maps

structure Tn where
  kind : Nat
  name : ByteArray
  dst : ByteArray
  ptr : Option Nat
def ptrV (r : Option Nat) : Value := .pointer (r.map fun X => ⟨X, 0, none⟩)
def Tn.cells (t : Tn) : List Value := [.int .i64 (t.kind : Nat), .string t.name, .string t.dst, ptrV t.ptr]
def Tn.ok (t : Tn) : Prop := t.name.size ≤ maxLen ∧ t.dst.size ≤ maxLen ∧ ((t.kind = 0 ∧ ∃ X, t.ptr = some X) ∨ t.kind = 1 ∨ t.kind = 2)
def appT (g : ByteArray → Option Nat) (t : Tn) : ByteArray → Option Nat :=
  if t.kind = 0 then upN g t.name t.ptr else if t.kind = 1 then upN g t.name none else
    match g t.name with
    | none => g
    | some X => upN (upN g t.name none) t.dst (some X)

theorem turned_grown {w w' : World} {b : Nat} (h : w.mapTurned w' b) : w.grownBy w' (some b) := h.grown
theorem box_grown {w w' : World} {o : Obj} {M : Nat} (h : (w.alloc o).grownBy w' (some M)) : w.grownBy w' (some M) := (World.grownBy_alloc w o (some M)).trans h

set_option maxHeartbeats 1000000 in
theorem change_any (t : Tn) (M n : Nat) (g : ByteArray → Option Nat) (w : World) (ht : t.ok) (h : NameMap w M n g) (hn : n < maxLen) :
    Calls Try.prog 47 #[.agg t.cells.toArray, .map (some M)] w fun e w' => e = .returned (.tuple #[]) ∧ NameMap w' M (n + 1) (appT g t) ∧ w.grownBy w' (some M) := by
  obtain ⟨kd, s, d, p⟩ := t
  obtain ⟨h1, h2, h3⟩ := ht
  dsimp only at h1 h2 h3
  have HM : Hid (NameMap w M n g) := h
  have hlt := h.lt
  clear h
  have keep : ∀ o, NameMap (w.alloc o) M n g := fun o => HM.out.kept fun x hx => hb_alloc hx o
  rcases h3 with ⟨rfl, X, rfl⟩ | rfl | rfl
  · have e : appT g ⟨0, s, d, some X⟩ = upN g s (some X) := rfl
    rw [e]
    have K := Lib.hid keep
    clear keep e
    simp only [Tn.cells, ptrV, Option.map_some]
    go_enter Try.func47, Try.ntmps47
    go_wp2_with (first
      | (at_mapUpdate; refine wpList_nm_put _ rfl _ _ _ rfl rfl (K.out _) hn s rfl h1 X rfl ?_; intro w1 hN1 hg1)
      | go_in)
    go_end0
    exact ⟨rfl, hN1, box_grown (turned_grown hg1)⟩
  · have e : appT g ⟨1, s, d, p⟩ = upN g s none := rfl
    rw [e]
    have K := Lib.hid keep
    clear keep e
    simp only [Tn.cells]
    go_enter Try.func47, Try.ntmps47
    go_wp2_with (first
      | (at_delete; refine wpList_nm_del _ rfl _ _ rfl rfl (K.out _) s rfl h1 ?_; intro w1 hN1 hg1)
      | go_in)
    go_end0
    exact ⟨rfl, hN1.mono (Nat.le_succ _), box_grown (turned_grown hg1)⟩
  · have K := Lib.hid keep
    clear keep
    simp only [Tn.cells]
    cases hr : g s with
    | none =>
      have e : appT g ⟨2, s, d, p⟩ = g := by simp [appT, hr]
      rw [e]
      have HR := Lib.hid hr
      clear e hr
      go_enter Try.func47, Try.ntmps47
      go_wp2_with (first
        | (at_lookup; refine wpList_nm_look _ rfl _ _ true rfl rfl (K.out _) s rfl h1 none HR.out (.tuple #[.pointer none, .bool false]) rfl ?_)
        | go_in)
      go_end0
      exact ⟨rfl, (K.out _).mono (Nat.le_succ _), World.grownBy_alloc w _ _⟩
    | some X =>
      have e : appT g ⟨2, s, d, p⟩ = upN (upN g s none) d (some X) := by simp [appT, hr]
      rw [e]
      have HR := Lib.hid hr
      clear e hr
      go_enter Try.func47, Try.ntmps47
      go_wp2_with (first
        | (at_lookup; refine wpList_nm_look _ rfl _ _ true rfl rfl (K.out _) s rfl h1 (some X) HR.out (.tuple #[.pointer (some ⟨X, 0, none⟩), .bool true]) rfl ?_)
        | (at_delete; refine wpList_nm_del _ rfl _ _ rfl rfl (K.out _) s rfl h1 ?_; intro w1 hN1 hg1; have HN1 := Lib.hid hN1; have HG1 := Lib.hid hg1; have hb1 := hb_grown (heap_alloc_new w (.cells #[.int .i64 2, .string s, .string d, ptrV p] 87)) (turned_grown hg1) (by simp; omega); have b2 := hb_at hb1 2 rfl; clear hN1 hg1 hb1)
        | (at_mapUpdate; refine wpList_nm_put _ rfl _ _ _ rfl rfl HN1.out hn d rfl h2 X rfl ?_; intro w2 hN2 hg2)
        | go_in)
      go_end0
      exact ⟨rfl, hN2, box_grown ((turned_grown HG1.out).trans (turned_grown hg2))⟩
end Go.Proofs.Ytmfphnhdahaooaa
/- A turn is made on the directory of any store, and kept behind the turns since the last SyncDir. -/
namespace Go.Proofs.Ytmfphnhdahaooaa
open Go.RowKit Go.Maps

structure DidT (B F N L : Nat) (cap used fail pow : Int) (off : Bool) (tv : Value) (k n : Nat) (ts : List Value) (t : Tn) (g : ByteArray → Option Nat) (w w' : World) : Prop where
  own : ∃ tv', w'.heap[F]? = some (.cells (fsC cap used N L tv' fail pow off) 82 (0, 0)) ∧ w'.ownsRow B 87 4 tv' (k + 1) (ts ++ t.cells)
  map : NameMap w' N (n + 1) (appT g t)
  size : w.heap.size ≤ w'.heap.size
  rest : w'.os = w.os ∧ w'.tape = w.tape ∧ w'.output = w.output
  kept : ∀ k x, k ≠ N → k ≠ F → some k ≠ tv.ownBlock → w.heap[k]? = some x → w'.heap[k]? = some x

theorem cells_arr (t : Tn) : t.cells.toArray = #[.int .i64 (t.kind : Nat), .string t.name, .string t.dst, ptrV t.ptr] := rfl

set_option maxHeartbeats 1000000 in
theorem do_any (B F N L : Nat) (cap used fail pow : Int) (off : Bool) (tv : Value) (k n : Nat) (ts : List Value) (t : Tn) (g : ByteArray → Option Nat) (w : World)
    (hF : w.heap[F]? = some (.cells (fsC cap used N L tv fail pow off) 82 (0, 0))) (hN : NameMap w N n g) (hn : n < maxLen) (hT : w.ownsRow B 87 4 tv k ts) (hk : k ≤ 1000000) (hB : B ≤ w.heap.size) (ht : t.ok) :
    Calls Try.prog 58 #[.pointer (some ⟨F, 0, none⟩), .agg t.cells.toArray] w fun e w' => e = .returned (.tuple #[]) ∧ DidT B F N L cap used fail pow off tv k n ts t g w w' := by
  have c2 : w.cell? ⟨F, 2, none⟩ = some (.map (some N)) := by rw [hb_cell hF]; rfl
  have hFl := hb_lt hF
  obtain ⟨es, clock, hNb⟩ := hN.heap
  have hne : F ≠ N := fun e => by subst e; rw [hF] at hNb; cases hNb
  have keep : ∀ o, NameMap (w.alloc o).drew N n g := fun o => hN.kept fun x hx => hb_alloc hx o
  have HK := Lib.hid keep
  have HN := Lib.hid hN
  have HNb := Lib.hid hNb
  clear keep hN hNb
  rw [cells_arr]
  go_enter Try.func58, Try.ntmps58
  go_upto_region 1 with fail
  go_cut [9] (fun _ wx => NameMap wx N (n + 1) (appT g t) ∧ (w.alloc (.cells t.cells.toArray 87)).grownBy wx (some N))
  case first =>
    go_region_with (go_at_call 47; refine (change_any t N n g _ ht (HK.out _) hn).mono ?_; rintro e w1 ⟨rfl, hN1, hg1⟩)
    all_goals (go_wp2_with fail; go_meet; exact ⟨hN1, grown_undrew hg1⟩)
  case rest =>
    obtain ⟨hN1, hg1⟩ := hcut
    obtain ⟨i0, hi, hz0, hz1, hz2⟩ := info_parts info87
    have hF1 := hb_grown (hb_alloc hF _) hg1 (by simpa using hne)
    have hB1 := hb_grown (heap_alloc_new w (.cells t.cells.toArray 87)) hg1 (by have := HN.out.lt; simp; omega)
    have hT1 := (hT.alloc (.cells t.cells.toArray 87)).kept hg1 (by
      have := own_ne hT HNb.out (by simp)
      exact .inr (fun e => this e.symm))
    have c4 : wc.cell? ⟨F, 4, none⟩ = some tv := by rw [hb_cell hF1]; rfl
    have b0 : wc.cell? ⟨w.heap.size, 0, none⟩ = some (.int .i64 (t.kind : Nat)) := by rw [hb_cell hB1]; rfl
    have b1 : wc.cell? ⟨w.heap.size, 1, none⟩ = some (.string t.name) := by rw [hb_cell hB1]; rfl
    have b2 : wc.cell? ⟨w.heap.size, 2, none⟩ = some (.string t.dst) := by rw [hb_cell hB1]; rfl
    have b3 : wc.cell? ⟨w.heap.size, 3, none⟩ = some (ptrV t.ptr) := by rw [hb_cell hB1]; rfl
    have c4a : ∀ o, (wc.alloc o).cell? ⟨F, 4, none⟩ = some tv := fun o => hb_at (hb_alloc hF1 o) 4 rfl
    have hneT : some F ≠ tv.ownBlock := own_ne hT hF (by simp)
    have hs1 := hg1.size
    have hBc : B ≤ wc.heap.size := by simp at hs1; omega
    clear hs1
    go_wp2_with fail
    go_region_law (refine step_append_lies _ rfl (.tmp 14) (.tmp 16) 80 rfl B 87 i0 _ 4 48 Try.underlying80 hi hz0 hz1 hz2 rfl (by decide) tv k ts (by simp [Act.eval, Act.put]) (hT1.alloc _) ⟨wc.heap.size, 0, none⟩ 1 1 t.cells (by simp [Act.eval, Act.put]) rfl (new_cells _ _ _ _ rfl) (by simp [Tn.cells, ptrV, Value.oneCell']) (by decide) (by unfold maxLen; omega) (by omega) (by simp; omega) _ rfl ?_; intro g cap' w2 hown2 hg2 hat2 hlt2; have hF2 := hb_grown (hb_alloc (w := wc.drew) hF1 _) hg2 hneT; have c42 : w2.cell? ⟨F, 4, none⟩ = some tv := hb_at hF2 4 rfl; have f42 := hb_free hF2 4)
    all_goals
      go_wp2_with fail
      go_end0
      exact ⟨rfl, ⟨_, hb_set_same hF2 4 _, hown2.kept (grown_set _ _ _) (.inr fun e => own_ne hown2 hF2 (by simp) e.symm)⟩,
        hN1.kept fun x hx => hb_set_other (hb_grown (hb_alloc (w := wc.drew) hx _) hg2 (own_ne hT HNb.out (by simp))) _ (Ne.symm hne),
        by have e1 := hg1.size; have e2 := hg2.size; have e3 := (grown_set w2 ⟨F, 4, none⟩ (.slice (some ⟨g, 0, none⟩) (k + 1) cap')).size; simp at e1 e2; omega,
        ⟨hg2.os.trans hg1.os, hg2.tape.trans hg1.tape, hg2.output.trans hg1.output⟩,
        fun k x hkN hkF hkT h => hb_set_other (hb_grown (hb_alloc (w := wc.drew) (hb_grown (w' := wc) (hb_alloc h _) hg1 (fun e => hkN (Option.some.inj e))) _) hg2 hkT) _ hkF⟩
end Go.Proofs.Ytmfphnhdahaooaa
