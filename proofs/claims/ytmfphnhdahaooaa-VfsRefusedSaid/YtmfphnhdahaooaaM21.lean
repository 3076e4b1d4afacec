/- The texts Gv, Gw, one behind the other. -/
import Derived.Test.YtmfphnhdahaooaaM15
import Derived.Test.YtmfphnhdahaooaaM18
import Derived.Test.YtmfphnhdahaooaaM20
set_option linter.unusedSimpArgs false
set_option linter.unusedVariables false
/- The directory behind a crash, of any store: the one that lasts, with the turns that are told. -/
namespace Go.Proofs.Ytmfphnhdahaooaa
open Go.RowKit Go.Maps

/-- A set of integers. -/
def ISet (w : World) (M n : Nat) (g : Int → Bool) : Prop := ∃ D : DataW Unit, w.ownsMap Try.prog 3 unitElem M n D ∧ ∀ i, (Lit.int .i64 i).wf = true → Maps.has D (.int .i64 i) = g i
theorem K3 : Maps.Keyed Try.prog 3 := Maps.int_keyed Try.underlying3
theorem key3 (i : Int) (h : (Lit.int .i64 i).wf = true) : keyOf Try.prog 3 (.int .i64 i) = some (.int .i64 i) := Maps.keyOf_int_mk Try.underlying3 h

section
variable {w w' : World} {M n : Nat} {g : Int → Bool}
theorem ISet.lt (h : ISet w M n g) : M < w.heap.size := h.elim fun _ h => h.1.lt
theorem ISet.same (h : ISet w M n g) (hb : w'.heap[M]? = w.heap[M]?) : ISet w' M n g := by
  obtain ⟨D, ⟨es, clock, h1, h2⟩, h3⟩ := h
  exact ⟨D, ⟨es, clock, hb.trans h1, h2⟩, h3⟩
theorem ISet.heap (h : ISet w M n g) : ∃ es clock, w.heap[M]? = some (.map es clock) := by
  obtain ⟨D, ⟨es, clock, hb, _⟩, _⟩ := h
  exact ⟨es, clock, hb⟩
theorem ISet.kept (h : ISet w M n g) (hk : ∀ x, w.heap[M]? = some x → w'.heap[M]? = some x) : ISet w' M n g := by
  obtain ⟨es, clock, hb⟩ := h.heap
  exact h.same ((hk _ hb).trans hb.symm)
theorem ISet.made (w : World) : ISet (w.alloc (.map #[] 0)) w.heap.size 0 fun _ => false := ⟨_, World.ownsMap_made w _ _ _, fun _ _ => rfl⟩

theorem ISet.put (h : ISet w M n g) (hn : n < maxLen) (i : Int) (hi : (Lit.int .i64 i).wf = true) :
    ∃ w', (Instr.mapUpdate 121 (.map (some M)) (.int .i64 i) (.agg #[])).run Try.prog w = .ok () w' ∧ ISet w' M (n + 1) (fun j => j == i || g j) ∧ w.mapTurned w' M := by
  obtain ⟨D, hD, hg⟩ := h
  obtain ⟨w', hrun, h1, h2⟩ := hD.store K3 Try.underlying121 hn (val := .agg #[]) (d := .agg []) (ps := []) (key3 i hi) unitElem_mk
  refine ⟨w', hrun, ⟨_, h1, fun j hj => ?_⟩, h2⟩
  have hK : WideAt.IsKeyLit (.int .i64 i) := trivial
  by_cases e : j = i
  · subst e
    rw [has_put_same hD.isMap hK]
    simp
  · rw [has_put_other (by intro e2; simp at e2; exact e e2), hg j hj]
    simp [e]

variable (w) {ops : Array Oper} {rest : List Oper} {o : Oper} {a : Act} {Q : Exit → Act → World → Prop}
theorem wpList_is_put (hg : o.guard = none) (m x v : Operand) (hop : o.op = Op.mapUpdate 121 m x v) (hm : a.eval m = .map (some M)) (h : ISet w M n g) (hn : n < maxLen) (i : Int) (hx : a.eval x = .int .i64 i) (hi : (Lit.int .i64 i).wf = true)
    (hv : a.eval v = .agg #[]) (hK : ∀ w', ISet w' M (n + 1) (fun j => j == i || g j) → w.mapTurned w' M → wpList Try.prog ops Q rest (a.put o.dst undef) w') : wpList Try.prog ops Q (o :: rest) a w := by
  refine wpList_plain hg fun K' hK' => ?_
  obtain ⟨w', hrun, h1, h2⟩ := h.put hn i hi
  unfold Oper.wp
  simp [execOp, hop, hm, hx, hv, hrun, Result.andThen]
  exact hK' _ _ (hK w' h1 h2)
theorem wpList_is_look (hg : o.guard = none) (m x : Operand) (hop : o.op = Op.lookup 121 m x true) (hm : a.eval m = .map (some M)) (h : ISet w M n g) (i : Int) (hx : a.eval x = .int .i64 i) (hi : (Lit.int .i64 i).wf = true) (r : Bool) (hr : g i = r)
    (hK : wpList Try.prog ops Q rest (a.put o.dst (.tuple #[.agg #[], .bool r])) w) : wpList Try.prog ops Q (o :: rest) a w := by
  obtain ⟨D, hD, hgg⟩ := h
  refine wpList_lookup_own_unit w hg m x 121 hop 3 118 K3 Try.underlying121 (zero118 w) M n D hm hD (.int .i64 i) (.int .i64 i) hx (key3 i hi) ?_
  rw [hgg i hi, hr]
  exact hK
end

theorem mclone_nm {w : World} {N n : Nat} {g : ByteArray → Option Nat} (h : NameMap w N n g) :
    Calls Try.prog 54 #[.map (some N)] w fun e w' => e = .returned (.map (some w.heap.size)) ∧ NameMap w' w.heap.size n g ∧ Below w.heap.size w w' ∧ w'.heap.size = w.heap.size + 1 := by
  obtain ⟨D, ⟨es, clock, hb, h2⟩, h3⟩ := h
  refine (mclone_ok N es clock w hb).mono ?_
  rintro e w' ⟨rfl, rfl⟩
  exact ⟨rfl, ⟨D, ⟨es, clock, heap_alloc_new w _, h2⟩, h3⟩, below1 w _, by simp⟩

/-- The first q turns, of those that are told. -/
def dirTo (told : Nat → Bool) (ts : List Tn) : Nat → (ByteArray → Option Nat) → (ByteArray → Option Nat)
  | 0, g => g
  | q + 1, g => match ts[q]? with
    | some t => if told q = true then appT (dirTo told ts q g) t else dirTo told ts q g
    | none => dirTo told ts q g

theorem dirTo_names {told : Nat → Bool} {ts : List Tn} {g : ByteArray → Option Nat} {P : Nat → Prop} (h : ∀ s X, g s = some X → NameP s ∧ P X) (ht : ∀ t ∈ ts, t.ok ∧ (t.kind ≠ 1 → t.kind ≠ 2 → NameP t.name) ∧ (t.kind = 2 → NameP t.dst) ∧ ∀ X, t.ptr = some X → P X) :
    ∀ q s X, dirTo told ts q g s = some X → NameP s ∧ P X := by
  intro q
  induction q with
  | zero => exact h
  | succ q ih =>
    intro s X hs
    unfold dirTo at hs
    cases e : ts[q]? with
    | none => rw [e] at hs; exact ih s X hs
    | some t =>
      rw [e] at hs
      dsimp only at hs
      obtain ⟨h1, h2, h3, h4⟩ := ht t (List.mem_of_getElem? e)
      split at hs
      · exact appT_names ih h2 h3 h4 h1 s X hs
      · exact ih s X hs
end Go.Proofs.Ytmfphnhdahaooaa
/- directory: the walk. -/
namespace Go.Proofs.Ytmfphnhdahaooaa
open Go.RowKit Go.Maps

/-- A slice of integers, read. -/
def RowI (w : World) (ao : Option Addr) (zs : List Int) : Prop := ∀ i z, zs[i]? = some z → (Lit.int .i64 z).wf = true ∧ ∃ b off, ao = some ⟨b, off, none⟩ ∧ w.cell? ⟨b, off + i, none⟩ = some (.int .i64 z)

theorem take_mem (zs : List Int) (q : Nat) (z : Int) (h : zs[q]? = some z) : (fun j : Int => j == z || decide (j ∈ zs.take q)) = fun j => decide (j ∈ zs.take (q + 1)) := by
  funext j
  rw [List.take_add_one, h]
  simp only [Option.toList_some, List.mem_append, List.mem_singleton]
  by_cases e : j = z <;> simp [e]

def DirP (nb : Nat) (g : ByteArray → Option Nat) (w : World) (e : Ending) (w' : World) : Prop := ∃ M, e = .returned (.map (some M)) ∧ w.heap.size ≤ M ∧ NameMap w' M nb g ∧ Below w.heap.size w w'

theorem wf_nat (q : Nat) (h : q ≤ 1000000) : (Lit.int .i64 (q : Int)).wf = true := by
  simp [Lit.wf]
  have e : IntKind.i64.min = -9223372036854775808 := by decide
  rw [e]
  omega

set_option maxRecDepth 100000 in
set_option maxHeartbeats 4000000 in
theorem dir_any {w : World} {B F N L n m c : Nat} {A : Fs} {tv : Value} {ao : Option Addr} {zs : List Int} (h : Raw w B F A N L n m tv) (hm : m + A.turns.length ≤ 1000) (hz : RowI w ao zs) (hzl : zs.length ≤ 10000) :
    Calls Try.prog 51 #[.pointer (some ⟨F, 0, none⟩), .slice ao zs.length c] w (DirP (m + A.turns.length) (dirTo (fun i => decide ((i : Int) ∈ zs)) A.turns A.turns.length A.last) w) := by
  have hmm := @run_makeMap Try.prog
  have H := Lib.hid h
  have HZ := Lib.hid hz
  have HM := Lib.hid hm
  have hFl := hb_lt h.store
  obtain ⟨len, hlen⟩ : ∃ len, len = zs.length := ⟨_, rfl⟩
  rw [← hlen] at hzl ⊢
  have HLEN := Lib.hid hlen
  obtain ⟨told, htold⟩ : ∃ told : Nat → Bool, told = fun i : Nat => decide ((i : Int) ∈ zs) := ⟨_, rfl⟩
  rw [← htold]
  have HTO := Lib.hid htold
  obtain ⟨T, hT⟩ : ∃ T, T = A.turns.length := ⟨_, rfl⟩
  rw [← hT]
  have HT := Lib.hid hT
  have hT1 : T ≤ 1000 := by omega
  clear h hz hm hlen htold hT
  go_enter Try.func51, Try.ntmps51
  go_upto_region 3 with fail
  clear hmm
  go_loopw [16] (fun i wr => ∃ q : Nat, q ≤ len ∧ i = .int .i64 q ∧ Hid (ISet wr w.heap.size q (fun j => decide (j ∈ zs.take q))) ∧ Hid (Below w.heap.size w wr)) (fun i _ => len - (intOf i).toNat)
  case atStart => exact ⟨0, Nat.zero_le _, rfl, Lib.hid (by simpa using ISet.made w), Lib.hid (below1 w _)⟩
  case round =>
    obtain ⟨q, hq, rfl, HI, HBel⟩ := hrel
    by_cases hlt : q < len
    · obtain ⟨z, hz⟩ : ∃ z, zs[q]? = some z := ⟨_, List.getElem?_eq_getElem (by rw [← HLEN.out]; exact hlt)⟩
      obtain ⟨hwf, b, off, rfl, hc⟩ := HZ.out q z hz
      have hc2 : wr.cell? ⟨b, off + q, none⟩ = some (.int .i64 z) := by
        rw [HBel.out.cell (p := ⟨b, off + q, none⟩) (World.block_lt_of_cell? w _ hc)]
        exact hc
      have HW := Lib.hid hwf
      have HZQ := Lib.hid hz
      clear hwf hc hz
      go_wp2_with (first
        | (at_mapUpdate; refine wpList_is_put _ rfl _ _ _ rfl rfl HI.out (by unfold maxLen; omega) z rfl HW.out rfl ?_; intro w2 hI2 hT2)
        | go_in)
      refine ⟨⟨q + 1, by omega, by go_num, Lib.hid ?_, Lib.hid ?_⟩, by simp [intOf]; omega⟩
      · rw [← take_mem zs q z HZQ.out]
        exact hI2
      · exact below_grown HBel.out (turned_grown hT2) HBel.out.size (Nat.le_refl _)
    · obtain rfl : q = len := by omega
      have htk : zs.take q = zs := List.take_of_length_le (by rw [← HLEN.out]; exact Nat.le_refl _)
      rw [htk] at HI
      clear htk
      have hR := H.out.kept (w' := wr) fun b x hx => hb_below hx HBel.out (hb_lt hx)
      have c3 := hR.cells.c3
      have HR := Lib.hid hR
      clear hR
      go_upto_region 8 with (first
        | (go_at_call 54; refine (mclone_nm HR.out.lasts).mono ?_; rintro e w3 ⟨rfl, hN3, hB3, hS3⟩)
        | go_in)
      have hBel3 : Below w.heap.size w w3 := HBel.out.trans (hB3.mono HBel.out.size)
      have hM : w.heap.size < wr.heap.size := HI.out.lt
      have hI3 : ISet w3 w.heap.size q fun j => decide (j ∈ zs) := HI.out.kept fun x hx => hb_below hx hB3 (hb_lt hx)
      obtain ⟨M, hMM⟩ : ∃ M, M = wr.heap.size := ⟨_, rfl⟩
      rw [← hMM] at hN3 hM ⊢
      have hR3 := H.out.kept (w' := w3) fun b x hx => hb_below hx hBel3 (hb_lt hx)
      obtain ⟨tao, tc, htv, htlc⟩ := own_sl hR3.row
      subst htv
      have c4 := hR3.cells.c4
      rw [← HT.out] at c4 htlc
      have HN3 := Lib.hid hN3
      have HBel3 := Lib.hid hBel3
      have HI3 := Lib.hid hI3
      have HMM := Lib.hid hMM
      clear hN3 hBel3 hI3 hMM hR3 hB3 hS3 c3
      go_upto_region 9 with fail
      clear c4
      go_loopw [34] (fun i wx => ∃ p : Nat, p ≤ T ∧ i = .int .i64 p ∧ Hid (NameMap wx M (m + p) (dirTo told A.turns p A.last)) ∧ Hid (ISet wx w.heap.size q fun j => decide (j ∈ zs)) ∧ Hid (Below w.heap.size w wx)) (fun i _ => T - (intOf i).toNat)
      case atStart => exact ⟨0, Nat.zero_le _, rfl, HN3, HI3, HBel3⟩
      case round =>
        clear HN3 HI3 HBel3 HI HBel HR
        obtain ⟨p, hp, rfl, HN, HI, HBel⟩ := hrel
        obtain ⟨wo, hwo⟩ : ∃ wo : World, wo = wr := ⟨_, rfl⟩
        clear hwo
        by_cases hlt2 : p < T
        · have hR4 := H.out.kept (w' := wr) fun b x hx => hb_below hx HBel.out (hb_lt hx)
          obtain ⟨t, ht⟩ : ∃ t, A.turns[p]? = some t := ⟨_, List.getElem?_eq_getElem (by rw [← HT.out]; exact hlt2)⟩
          obtain ⟨g, rfl, d0, d1, d2, d3⟩ := turn_cell hR4.row ht
          obtain ⟨po, hpo⟩ : ∃ po : Option Addr, ptrV t.ptr = .pointer po := ⟨_, rfl⟩
          rw [hpo] at d3
          have htn : t.ok := (H.out.turn t (List.mem_of_getElem? ht)).1
          have hch : ∀ (W : World), NameMap W M (m + p) (dirTo told A.turns p A.last) → Calls Try.prog 47 #[.agg #[.int .i64 (t.kind : Nat), .string t.name, .string t.dst, .pointer po], .map (some M)] W fun e w' => e = .returned (.tuple #[]) ∧ NameMap w' M (m + p + 1) (appT (dirTo told A.turns p A.last) t) ∧ W.grownBy w' (some M) := by
            intro W hW
            rw [← hpo]
            exact change_any t M (m + p) _ W htn hW (by have := HM.out; unfold maxLen; omega)
          have hnl : ∀ o o2, NameMap ((wr.alloc o).alloc o2) M (m + p) (dirTo told A.turns p A.last) := fun o o2 => HN.out.kept fun x hx => hb_alloc (hb_alloc hx o) o2
          have hil : ∀ o, ISet (wr.alloc o) w.heap.size q fun j => decide (j ∈ zs) := fun o => HI.out.kept fun x hx => hb_alloc hx o
          have hsucc : dirTo told A.turns (p + 1) A.last = if told p = true then appT (dirTo told A.turns p A.last) t else dirTo told A.turns p A.last := by
            show (match A.turns[p]? with | some t => if told p = true then appT (dirTo told A.turns p A.last) t else dirTo told A.turns p A.last | none => dirTo told A.turns p A.last) = _
            rw [ht]
          have hrr : (fun j : Int => decide (j ∈ zs)) (p : Int) = told p := by rw [HTO.out]
          have HCH := Lib.hid hch
          have HNL := Lib.hid hnl
          have HIL := Lib.hid hil
          have HSU := Lib.hid hsucc
          have HRR := Lib.hid hrr
          clear hch hnl hil hsucc hrr htn hpo ht hR4
          have hMw := hM
          cases htp : told p with
          | true =>
            have HTP := Lib.hid htp
            rw [htp] at HRR
            clear htp
            go_wp2_with (first
              | (at_lookup; refine wpList_is_look _ rfl _ _ rfl rfl (HIL.out _) (p : Int) rfl (wf_nat p (by omega)) true HRR.out ?_)
              | ((go_at_call 47; refine (HCH.out _ (HNL.out _ _)).mono ?_); rintro e w5 ⟨rfl, hN5, hg5⟩)
              | go_in)
            refine ⟨⟨p + 1, by omega, by go_num, Lib.hid ?_, Lib.hid ?_, Lib.hid ?_⟩, by simp [intOf]; omega⟩
            · rw [HSU.out, if_pos HTP.out]
              exact hN5
            · exact HI.out.kept fun x hx => hb_grown (hb_alloc (hb_alloc hx _) _) hg5 (by simp; omega)
            · have hb := HBel.out.size
              exact below_grown ((HBel.out.alloc hb _).alloc (by simp; omega) _) hg5 (by simp; omega) (by omega)
          | false =>
            have HTP := Lib.hid htp
            rw [htp] at HRR
            clear htp
            go_wp2_with (first
              | (at_lookup; refine wpList_is_look _ rfl _ _ rfl rfl (HIL.out _) (p : Int) rfl (wf_nat p (by omega)) false HRR.out ?_)
              | go_in)
            refine ⟨⟨p + 1, by omega, by go_num, Lib.hid ?_, Lib.hid ?_, Lib.hid ?_⟩, by simp [intOf]; omega⟩
            · rw [HSU.out, if_neg (by rw [HTP.out]; decide)]
              exact (HNL.out _ _).mono (by omega)
            · exact HI.out.kept fun x hx => hb_alloc (hb_alloc hx _) _
            · have hb := HBel.out.size
              exact (HBel.out.alloc hb _).alloc (by simp; omega) _
        · obtain rfl : p = T := by omega
          go_wp2
          go_ret
          exact ⟨M, rfl, Nat.le_of_lt hM, HN.out.mono (by have := HM.out; have := HT.out; omega), HBel.out⟩
end Go.Proofs.Ytmfphnhdahaooaa
