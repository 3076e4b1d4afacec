/- The texts Gx, Gy, one behind the other. -/
import Derived.Test.YtmfphnhdahaooaaM21
import Derived.DeepKeys4
import Derived.Test.YtmfphnhdahaooaaM10
import Derived.Test.YtmfphnhdahaooaaM14
set_option linter.unusedSimpArgs false
set_option linter.unusedVariables false
/- Sets of places of names; maps from names to any of some values. -/
namespace Go.Proofs.Ytmfphnhdahaooaa
open Go.RowKit Go.Maps Go.WideMaps

theorem laidTr : laidOutB Try.prog = true := by kernel_rfl
theorem row120 : (120 : TypeId) < Try.prog.types.size := of_decide_eq_true (by kernel_rfl)
theorem wide120 : (match Try.prog.underlying 120 with | some (.array _ _) | some (.struct _) => true | _ => false) = true := by kernel_rfl
set_option maxRecDepth 100000 in
theorem law120 : KeyLaw Try.prog 120 := deep_law_laid laidTr (m := 3) (by omega) row120 (by kernel_rfl) wide120
theorem K120 : Maps.Keyed Try.prog 120 := Maps.Keyed.of_law law120
theorem kt120 : Try.prog.keyType 120 = true := by kernel_rfl
theorem cells120 : Try.prog.cellsOf 120 = 2 := by kernel_rfl
theorem cells9 : Try.prog.cellsOf 9 = 1 := by kernel_rfl
theorem cells3 : Try.prog.cellsOf 3 = 1 := by kernel_rfl

def plc (s : ByteArray) (i : Int) : Value := .agg #[.string s, .int .i64 i]
def plcL (s : ByteArray) (i : Int) : Lit := .string (keyBytes [.string s.data.toList, .int .i64 i])

set_option maxRecDepth 100000 in
theorem key120 (s : ByteArray) (i : Int) (hs : s.size ≤ maxLen) (hi : (Lit.int .i64 i).wf = true) : keyOf Try.prog 120 (plc s i) = some (plcL s i) := by
  obtain ⟨d, hd⟩ : ∃ d, Try.prog.types.size = d + 1 := ⟨Try.prog.types.size - 1, by have : 120 < Try.prog.types.size := row120; omega⟩
  have hf : (plc s i).formed Try.prog 120 = true := by simp [Value.formed, Try.underlying120, cells120, plc]
  have h9 : Try.prog.keyLits (d + 1) 9 [.string s] = some [.string s.data.toList] := by simp [Program.keyLits, Try.underlying9, hs]
  have h3 : Try.prog.keyLits (d + 1) 3 [.int .i64 i] = some [.int .i64 i] := by simp [Program.keyLits, Try.underlying3, hi]
  have h0 : Try.prog.keyLits (d + 1 + 1) 120 [.string s, .int .i64 i] = some [.string s.data.toList, .int .i64 i] := by
    unfold Program.keyLits
    rw [Try.underlying120]
    simp [cells120, cells9, cells3, h9, h3]
  unfold keyOf
  rw [Try.underlying120]
  dsimp only
  rw [kt120, hf, hd]
  simp only [Bool.and_self, if_true]
  show (Try.prog.keyLits (d + 1 + 1) 120 [.string s, .int .i64 i]).map _ = _
  rw [h0]
  rfl

theorem plc_inj {s t : ByteArray} {i j : Int} (hs : s.size ≤ maxLen) (ht : t.size ≤ maxLen) (hi : (Lit.int .i64 i).wf = true) (hj : (Lit.int .i64 j).wf = true) (h : plcL s i = plcL t j) : s = t ∧ i = j := by
  have h1 := key120 s i hs hi
  have h2 := key120 t j ht hj
  rw [h] at h1
  have h3 := K120.inj h1 h2
  simpa [plc] using h3
end Go.Proofs.Ytmfphnhdahaooaa
/- What a crash leaves of a file. -/
namespace Go.Proofs.Ytmfphnhdahaooaa
open Go.RowKit Go.Maps

/-- A set of places. -/
def KSet (w : World) (M n : Nat) (g : ByteArray → Int → Bool) : Prop := ∃ D : DataW Unit, w.ownsMap Try.prog 120 unitElem M n D ∧ ∀ s i, s.size ≤ maxLen → (Lit.int .i64 i).wf = true → Maps.has D (plcL s i) = g s i

section
variable {w w' : World} {M n : Nat} {g : ByteArray → Int → Bool}
theorem KSet.lt (h : KSet w M n g) : M < w.heap.size := h.elim fun _ h => h.1.lt
theorem KSet.same (h : KSet w M n g) (hb : w'.heap[M]? = w.heap[M]?) : KSet w' M n g := by
  obtain ⟨D, ⟨es, clock, h1, h2⟩, h3⟩ := h
  exact ⟨D, ⟨es, clock, hb.trans h1, h2⟩, h3⟩
theorem KSet.heap (h : KSet w M n g) : ∃ es clock, w.heap[M]? = some (.map es clock) := by
  obtain ⟨D, ⟨es, clock, hb, _⟩, _⟩ := h
  exact ⟨es, clock, hb⟩
theorem KSet.kept (h : KSet w M n g) (hk : ∀ x, w.heap[M]? = some x → w'.heap[M]? = some x) : KSet w' M n g := by
  obtain ⟨es, clock, hb⟩ := h.heap
  exact h.same ((hk _ hb).trans hb.symm)
theorem KSet.made (w : World) : KSet (w.alloc (.map #[] 0)) w.heap.size 0 fun _ _ => false := ⟨_, World.ownsMap_made w _ _ _, fun _ _ _ _ => rfl⟩

theorem KSet.put (h : KSet w M n g) (hn : n < maxLen) (s : ByteArray) (i : Int) (hs : s.size ≤ maxLen) (hi : (Lit.int .i64 i).wf = true) :
    ∃ w', (Instr.mapUpdate 93 (.map (some M)) (plc s i) (.agg #[])).run Try.prog w = .ok () w' ∧ KSet w' M (n + 1) (fun t j => (decide (t = s) && j == i) || g t j) ∧ w.mapTurned w' M := by
  obtain ⟨D, hD, hg⟩ := h
  obtain ⟨w', hrun, h1, h2⟩ := hD.store K120 Try.underlying93 hn (val := .agg #[]) (d := .agg []) (ps := []) (key120 s i hs hi) unitElem_mk
  refine ⟨w', hrun, ⟨_, h1, fun t j ht hj => ?_⟩, h2⟩
  have hK : WideAt.IsKeyLit (plcL s i) := trivial
  by_cases e : t = s ∧ j = i
  · obtain ⟨rfl, rfl⟩ := e
    rw [has_put_same hD.isMap hK]
    simp
  · rw [has_put_other (fun e2 => e (plc_inj ht hs hj hi e2)), hg t j ht hj]
    by_cases e1 : t = s
    · have e2 : j ≠ i := fun h => e ⟨e1, h⟩
      simp [e2]
    · simp [e1]

variable (w) {ops : Array Oper} {rest : List Oper} {o : Oper} {a : Act} {Q : Exit → Act → World → Prop}
theorem wpList_ks_put (hg : o.guard = none) (m x v : Operand) (hop : o.op = Op.mapUpdate 93 m x v) (hm : a.eval m = .map (some M)) (h : KSet w M n g) (hn : n < maxLen) (s : ByteArray) (i : Int) (hx : a.eval x = .agg #[.string s, .int .i64 i]) (hs : s.size ≤ maxLen) (hi : (Lit.int .i64 i).wf = true)
    (hv : a.eval v = .agg #[]) (hK : ∀ w', KSet w' M (n + 1) (fun t j => (decide (t = s) && j == i) || g t j) → w.mapTurned w' M → wpList Try.prog ops Q rest (a.put o.dst undef) w') : wpList Try.prog ops Q (o :: rest) a w := by
  refine wpList_plain hg fun K' hK' => ?_
  obtain ⟨w', hrun, h1, h2⟩ := h.put hn s i hs hi
  unfold Oper.wp
  rw [plc] at hrun
  simp [execOp, hop, hm, hx, hv, hrun, Result.andThen]
  exact hK' _ _ (hK w' h1 h2)
theorem wpList_ks_look (hg : o.guard = none) (m x : Operand) (hop : o.op = Op.lookup 93 m x true) (hm : a.eval m = .map (some M)) (h : KSet w M n g) (s : ByteArray) (i : Int) (hx : a.eval x = .agg #[.string s, .int .i64 i]) (hs : s.size ≤ maxLen) (hi : (Lit.int .i64 i).wf = true) (r : Bool) (hr : g s i = r)
    (hK : wpList Try.prog ops Q rest (a.put o.dst (.tuple #[.agg #[], .bool r])) w) : wpList Try.prog ops Q (o :: rest) a w := by
  obtain ⟨D, hD, hgg⟩ := h
  refine wpList_lookup_own_unit w hg m x 93 hop 120 118 K120 Try.underlying93 (zero118 w) M n D hm hD (plc s i) (plcL s i) hx (key120 s i hs hi) ?_
  rw [hgg s i hs hi, hr]
  exact hK
end

def zb : Value := .int .u8 0
/-- The byte at a place behind a crash, and what is there while the first q sectors are done. -/
def finV (kp : Nat → Bool) (xs ls : List Value) (j : Nat) : Value := (if kp (j / 512) = true then xs else ls).getD j zb
def stage (kp : Nat → Bool) (xs ls : List Value) (size q : Nat) : List Value := (List.range size).map fun j => if j < 512 * q then finV kp xs ls j else zb

theorem stage_len (kp : Nat → Bool) (xs ls : List Value) (size q : Nat) : (stage kp xs ls size q).length = size := by simp [stage]
theorem stage_at (kp : Nat → Bool) (xs ls : List Value) (size q j : Nat) (h : j < size) : (stage kp xs ls size q)[j]? = some (if j < 512 * q then finV kp xs ls j else zb) := by
  simp [stage, h]
theorem stage_zero (kp : Nat → Bool) (xs ls : List Value) (size : Nat) : stage kp xs ls size 0 = List.replicate size zb := by
  apply List.ext_getElem?
  intro j
  by_cases h : j < size
  · rw [stage_at _ _ _ _ _ _ h]
    simp [h]
  · rw [List.getElem?_eq_none (by rw [stage_len]; omega), List.getElem?_eq_none (by simp; omega)]

/-- A sector that one side has none of. -/
theorem stage_none {kp : Nat → Bool} {xs ls : List Value} {size q : Nat} (h : (if kp q = true then xs else ls).length ≤ 512 * q) : stage kp xs ls size (q + 1) = stage kp xs ls size q := by
  unfold stage
  apply List.map_congr_left
  intro j _
  by_cases h1 : j < 512 * q
  · rw [if_pos (by omega), if_pos h1]
  · rw [if_neg h1]
    split
    · have e : j / 512 = q := by omega
      unfold finV
      rw [e, List.getD_eq_getElem?_getD, List.getElem?_eq_none (by omega)]
      rfl
    · rfl

/-- A sector is copied. -/
theorem stage_copy {kp : Nat → Bool} {xs ls : List Value} {size q : Nat} (hq : 512 * q < size) (hlt : 512 * q < (if kp q = true then xs else ls).length) :
    splice (stage kp xs ls size q) (512 * q) (((if kp q = true then xs else ls).drop (512 * q)).take (min (512 * q + 512) size - 512 * q)) = stage kp xs ls size (q + 1) := by
  obtain ⟨fr, hfr⟩ : ∃ fr, fr = (if kp q = true then xs else ls) := ⟨_, rfl⟩
  rw [← hfr] at hlt ⊢
  obtain ⟨cs, hcs⟩ : ∃ cs, cs = (fr.drop (512 * q)).take (min (512 * q + 512) size - 512 * q) := ⟨_, rfl⟩
  rw [← hcs]
  have hcl : cs.length = min (min (512 * q + 512) size - 512 * q) (fr.length - 512 * q) := by rw [hcs, List.length_take, List.length_drop]
  have hca : ∀ k, k < cs.length → cs[k]? = fr[512 * q + k]? := fun k hk => by rw [hcs, List.getElem?_take_of_lt (by omega), List.getElem?_drop]
  have htl : ((stage kp xs ls size q).take (512 * q)).length = 512 * q := by rw [List.length_take, stage_len]; omega
  have hsl : (splice (stage kp xs ls size q) (512 * q) cs).length = size := by rw [length_splice _ _ _ (by rw [stage_len]; omega), stage_len]
  apply List.ext_getElem?
  intro j
  by_cases hj : j < size
  · rw [stage_at _ _ _ _ _ _ hj]
    unfold splice
    by_cases h1 : j < 512 * q
    · rw [List.getElem?_append_left (by omega), List.getElem?_take_of_lt h1, stage_at _ _ _ _ _ _ hj, if_pos h1, if_pos (by omega)]
    · rw [List.getElem?_append_right (by omega), htl]
      by_cases h2 : j - 512 * q < cs.length
      · rw [List.getElem?_append_left h2, if_pos (by omega), hca _ h2]
        have e : j / 512 = q := by omega
        unfold finV
        rw [e, ← hfr, show 512 * q + (j - 512 * q) = j by omega, List.getD_eq_getElem?_getD, List.getElem?_eq_getElem (by omega)]
        rfl
      · rw [List.getElem?_append_right (by omega), List.getElem?_drop, show 512 * q + cs.length + (j - 512 * q - cs.length) = j by omega, stage_at _ _ _ _ _ _ hj, if_neg h1]
        by_cases h3 : j < 512 * (q + 1)
        · rw [if_pos h3]
          have e : j / 512 = q := by omega
          unfold finV
          rw [e, ← hfr, List.getD_eq_getElem?_getD, List.getElem?_eq_none (by omega)]
          rfl
        · rw [if_neg h3]
  · rw [List.getElem?_eq_none (by omega), List.getElem?_eq_none (by rw [stage_len]; omega)]
end Go.Proofs.Ytmfphnhdahaooaa
