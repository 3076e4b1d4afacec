/- The texts Vc, one behind the other. -/
import Derived.Test.YtmfphnhdahaooaaM02
import Derived.Maps.OwnSet
import Derived.Maps.RangeWalk
import Derived.Deep.AppendLies
set_option linter.unusedSimpArgs false
set_option linter.unusedVariables false
/- Maps known entry by entry: what a look-up and a store of a new key do; facts on blocks behind new blocks and stores. -/
namespace Go.Proofs.Ytmfphnhdahaooaa
open Go.RowKit Go.Maps
open Go.ChangeMaps (setBlock heap_setBlock_same frozen?_setBlock)

section
variable {w w' : World} {b : Nat} {x : Obj}
theorem hb_lt (h : w.heap[b]? = some x) : b < w.heap.size := by
  rcases Nat.lt_or_ge b w.heap.size with h1 | h1
  · exact h1
  · simp [Array.getElem?_eq_none h1] at h
theorem hb_alloc (h : w.heap[b]? = some x) (o : Obj) : (w.alloc o).heap[b]? = some x := by rw [heap_alloc_old w o (hb_lt h), h]
theorem hb_set_other (h : w.heap[b]? = some x) {a : Addr} (v : Value) (hn : b ≠ a.block) : (w.setCell a v).heap[b]? = some x := by rw [Below.heap_setCell w a v b hn, h]
theorem hb_set_same {c : Array Value} {t : TypeId} {f : Nat × Nat} (h : w.heap[b]? = some (.cells c t f)) (i : Nat) (v : Value) : (w.setCell ⟨b, i, none⟩ v).heap[b]? = some (.cells (c.setIfInBounds i v) t f) := by
  unfold World.setCell
  simp only [Array.getElem?_modify]
  simp [h]
theorem hb_grown {row : Option Nat} (h : w.heap[b]? = some x) (hg : w.grownBy w' row) (hn : some b ≠ row) : w'.heap[b]? = some x := by rw [hg.block b (hb_lt h) hn, h]
theorem hb_below {B : Nat} (h : w.heap[b]? = some x) (hg : Below B w w') (hn : b < B) : w'.heap[b]? = some x := by rw [hg.block b hn, h]
theorem hb_cell {c : Array Value} {t : TypeId} {f : Nat × Nat} (h : w.heap[b]? = some (.cells c t f)) (i : Nat) : w.cell? ⟨b, i, none⟩ = c[i]? := by simp [World.cell?, h]
theorem hb_cell_add {c : Array Value} {t : TypeId} {f : Nat × Nat} (h : w.heap[b]? = some (.cells c t f)) (j : Nat) : w.cell? ((⟨b, 0, none⟩ : Addr).add j) = c[j]? := by
  have e : ((⟨b, 0, none⟩ : Addr).add j) = ⟨b, j, none⟩ := by
    unfold Addr.add
    by_cases hj : j = 0 <;> simp [hj]
  rw [e, hb_cell h]
theorem hb_at {c : Array Value} {t : TypeId} {f : Nat × Nat} (h : w.heap[b]? = some (.cells c t f)) (i : Nat) {v : Value} (hv : c[i]? = some v) : w.cell? ⟨b, i, none⟩ = some v := by rw [hb_cell h, hv]
theorem hb_free {c : Array Value} {t : TypeId} (h : w.heap[b]? = some (.cells c t (0, 0))) (i : Nat) : w.frozen? ⟨b, i, none⟩ = false := by simp [World.frozen?, h]
end

theorem hb_drewN {w : World} {b : Nat} {x : Obj} (h : w.heap[b]? = some x) (n : Nat) : (w.drewN n).heap[b]? = some x := h
theorem own_drewN {w : World} {base : Nat} {e : TypeId} {size : Nat} {v : Value} {n : Nat} {xs : List Value} (h : w.ownsRow base e size v n xs) (m : Nat) : (w.drewN m).ownsRow base e size v n xs := h
theorem grown_set (w : World) (a : Addr) (v : Value) : w.grownBy (w.setCell a v) (some a.block) :=
  ⟨rfl, rfl, rfl, by simp [World.setCell], fun k _ hk => Below.heap_setCell w a v k (fun e => hk (by rw [e]))⟩
theorem grown_undrew {w w' : World} {row : Option Nat} (h : w.drew.grownBy w' row) : w.grownBy w' row := ⟨h.os, h.tape, h.output, h.size, h.block⟩
theorem grown_undrewN {w w' : World} {n : Nat} {row : Option Nat} (h : (w.drewN n).grownBy w' row) : w.grownBy w' row := ⟨h.os, h.tape, h.output, h.size, h.block⟩
theorem own_ne {w : World} {base : Nat} {e : TypeId} {size : Nat} {v : Value} {n : Nat} {xs : List Value} {k : Nat} {x : Obj} (h : w.ownsRow base e size v n xs) (hk : w.heap[k]? = some x) (hx : ∀ cs f, x ≠ .cells cs e f) : some k ≠ v.ownBlock := by
  intro hv
  rcases h with ⟨_, ⟨rfl, _⟩ | ⟨g, cap, cur, rfl, _, hb, _⟩⟩
  · cases hv
  · simp [Value.ownBlock] at hv
    subst hv
    rw [hb] at hk
    exact hx _ _ (Option.some.inj hk).symm
theorem own_kept {w w' : World} {base : Nat} {e : TypeId} {size : Nat} {v : Value} {n : Nat} {xs : List Value} (h : w.ownsRow base e size v n xs) (hk : ∀ g x, v.ownBlock = some g → w.heap[g]? = some x → w'.heap[g]? = some x) : w'.ownsRow base e size v n xs := by
  obtain ⟨hl, h⟩ := h
  refine ⟨hl, ?_⟩
  rcases h with h | ⟨g, cap, cur, rfl, hb, hg, r⟩
  · exact .inl h
  · exact .inr ⟨g, cap, cur, rfl, hb, hk g _ rfl hg, r⟩
theorem new_cells (w : World) (cs : Array Value) (t : TypeId) (l : List Value) (hl : cs.toList = l) : ∀ j u, l[j]? = some u → (w.alloc (.cells cs t)).cell? ((⟨w.heap.size, 0, none⟩ : Addr).add j) = some u := by
  intro j u h
  subst hl
  have e : ((⟨w.heap.size, 0, none⟩ : Addr).add j) = ⟨w.heap.size, j, none⟩ := by
    unfold Addr.add
    by_cases hj : j = 0 <;> simp [hj]
  rw [e, hb_cell (heap_alloc_new w _)]
  simpa using h

section
variable {P : Program} {w : World} {t k e : TypeId} {b : Nat} {es : Array MapEntry} {clock : Nat} {key val z : Value}

def lookRes (c : Bool) (r : Option (Nat × Value)) (z : Value) : Value :=
  match r with
  | some (_, v) => if c then .tuple #[v, .bool true] else v
  | none => if c then .tuple #[z, .bool false] else z

theorem run_look_raw {r : Option (Nat × Value)} (c : Bool) (ht : P.underlying t = some (.map k e)) (hb : w.heap[b]? = some (.map es clock))
    (hc : (Instr.checkKey es.isEmpty 10000 k key).run P w = .ok () w) (hf : (Instr.findKey k key es.toList).run P w = .ok r w) (hz : (zeroValue e).run P w = .ok z w) :
    (Instr.lookup t (.map (some b)) key c).run P w = .ok (lookRes c r z) w := by
  cases r <;> cases c <;> simp [Instr.lookup, run_underlying ht, MapKept.run_getObj_map hb, hc, hf, hz, Result.andThen, lookRes]

theorem run_put_new (ht : P.underlying t = some (.map k e)) (hb : w.heap[b]? = some (.map es clock))
    (hc : (Instr.checkKey false 10000 k key).run P w = .ok () w) (hf : (Instr.findKey k key es.toList).run P w = .ok none w) :
    (Instr.mapUpdate t (.map (some b)) key val).run P w = .ok () (setBlock w b (.map (es.push ⟨key, val, clock⟩) (clock + 1))) := by
  simp [Instr.mapUpdate, run_underlying ht, MapKept.run_getObj_map hb, hc, hf, MapKept.run_setObj_map _ hb, Result.andThen, setBlock]

variable (w) {ops : Array Oper} {rest : List Oper} {o : Oper} {a : Act} {Q : Exit → Act → World → Prop}
theorem wpList_look_raw (hg : o.guard = none) (m x : Operand) (t : TypeId) (c : Bool) (hop : o.op = Op.lookup t m x c) (k e : TypeId) (ht : P.underlying t = some (.map k e))
    (b : Nat) (es : Array MapEntry) (clock : Nat) (hm : a.eval m = .map (some b)) (hb : w.heap[b]? = some (.map es clock)) (key : Value) (hx : a.eval x = key)
    (hc : (Instr.checkKey es.isEmpty 10000 k key).run P w = .ok () w) (r : Option (Nat × Value)) (hf : (Instr.findKey k key es.toList).run P w = .ok r w) (z : Value) (hz : (zeroValue e).run P w = .ok z w)
    (res : Value) (hr : lookRes c r z = res) (hK : wpList P ops Q rest (a.put o.dst res) w) : wpList P ops Q (o :: rest) a w := by
  refine wpList_plain hg fun K' hK' => ?_
  have hrun := run_look_raw (P := P) (key := key) c ht hb hc hf hz
  unfold Oper.wp
  simp [execOp, hop, hm, hx, hrun, Result.andThen]
  rw [hr]
  exact hK' _ _ hK

theorem wpList_put_new (hg : o.guard = none) (m x v : Operand) (t : TypeId) (hop : o.op = Op.mapUpdate t m x v) (k e : TypeId) (ht : P.underlying t = some (.map k e))
    (b : Nat) (es : Array MapEntry) (clock : Nat) (hm : a.eval m = .map (some b)) (hb : w.heap[b]? = some (.map es clock)) (key val : Value) (hx : a.eval x = key) (hv : a.eval v = val)
    (hc : (Instr.checkKey false 10000 k key).run P w = .ok () w) (hf : (Instr.findKey k key es.toList).run P w = .ok none w)
    (hK : ∀ w', w'.heap[b]? = some (.map (es.push ⟨key, val, clock⟩) (clock + 1)) → w.grownBy w' (some b) → w'.heap.size = w.heap.size → wpList P ops Q rest (a.put o.dst undef) w') : wpList P ops Q (o :: rest) a w := by
  refine wpList_plain hg fun K' hK' => ?_
  have hrun := run_put_new (P := P) (key := key) (val := val) ht hb hc hf
  unfold Oper.wp
  simp [execOp, hop, hm, hx, hv, hrun, Result.andThen]
  exact hK' _ _ (hK _ (heap_setBlock_same hb _) ⟨rfl, rfl, rfl, by simp [setBlock], fun i _ hi => Go.ChangeMaps.heap_setBlock_other hb _ (fun e => hi (by rw [e]))⟩ (by simp [setBlock]))
end

theorem ck9 (em : Bool) (s : ByteArray) (w : World) : (Instr.checkKey em 10000 9 (.string s)).run Try.prog w = .ok () w := by kernel_rfl
theorem find9_none (s : ByteArray) (w : World) : (Instr.findKey 9 (.string s) []).run Try.prog w = .ok none w := by kernel_rfl
theorem find9_a (v : Value) (n : Nat) (w : World) : (Instr.findKey 9 (.string ⟨#[97]⟩) [⟨.string ⟨#[97]⟩, v, n⟩]).run Try.prog w = .ok (some (0, v)) w := by kernel_rfl
theorem zero78 (w : World) : (zeroValue 78).run Try.prog w = .ok (.pointer none) w := by kernel_rfl

set_option maxHeartbeats 400000 in
theorem change_comes (s to : ByteArray) (X N : Nat) (es : Array MapEntry) (clock : Nat) (w : World) (hN : w.heap[N]? = some (.map es clock)) (hf : ∀ w, (Instr.findKey 9 (.string s) es.toList).run Try.prog w = .ok none w) :
    Calls Try.prog 47 #[.agg #[.int .i64 0, .string s, .string to, .pointer (some ⟨X, 0, none⟩)], .map (some N)] w fun e w' => e = .returned (.tuple #[]) ∧
      w'.heap[N]? = some (.map (es.push ⟨.string s, .pointer (some ⟨X, 0, none⟩), clock⟩) (clock + 1)) ∧ w.grownBy w' (some N) := by
  go_enter Try.func47, Try.ntmps47
  go_wp2_with (first
    | (at_mapUpdate; refine wpList_put_new _ rfl _ _ _ 79 rfl 9 78 Try.underlying79 N es clock rfl (hb_alloc hN _) _ _ rfl rfl (ck9 _ _ _) (hf _) ?_; intro w1 hN1 hg1 hs1)
    | go_in)
  go_end0
  exact ⟨rfl, hN1, (World.grownBy_alloc _ _ _).trans hg1⟩
end Go.Proofs.Ytmfphnhdahaooaa
