/- Texts in a row: T9 Ta Tf. -/
import Derived.Test.YtncebhddcokkoaaDoorZU4
import Derived.Maps.OwnSet
import Derived.Maps.OwnOps
import Derived.Maps.RangeWalk
import Derived.Maps.StringElems
import Derived.Laws.AppendOwn
import Derived.Laws.EntriesVeiled
import Derived.Deep.QuietTactic
import Derived.BigQuiet
import Derived.Deep.DeepCutAuto
/- Sets of texts, counts of texts; look-ups, stores, deletes. -/
namespace Go.Proofs.YtncebhddcokkoaaDoor
open Go.RowKit Go.Maps
theorem K9 : Maps.Keyed Tryd.prog 9 := Maps.string_keyed Tryd.underlying9
theorem key9 (s : ByteArray) (h : s.size ≤ maxLen) : keyOf Tryd.prog 9 (.string s) = some (.string s.data.toList) := by
  simp [keyOf, Tryd.underlying9, mapKey, h]
theorem name_eq {s t : ByteArray} (h : s.data.toList = t.data.toList) : s = t := by
  cases s; cases t
  simpa using h
theorem lit_ne {s t : ByteArray} (h : t ≠ s) : (Lit.string t.data.toList) ≠ Lit.string s.data.toList := fun e => h (name_eq (by simpa using e))
theorem zero50 (w : World) : (zeroValue 116).run Tryd.prog w = .ok (.agg #[]) w := by kernel_rfl
theorem zero3 (w : World) : (zeroValue 3).run Tryd.prog w = .ok (.int .i64 0) w := by kernel_rfl
/-- A set of texts. -/
def SSet (w : World) (M n : Nat) (g : ByteArray → Bool) : Prop := ∃ D : DataW Unit, w.ownsMap Tryd.prog 9 unitElem M n D ∧ ∀ s : ByteArray, Maps.has D (.string s.data.toList) = g s
/-- How often each text is counted. -/
def CMap (w : World) (M n : Nat) (g : ByteArray → Int) : Prop := ∃ D : DataW Unit, w.ownsMap Tryd.prog 9 (plainElem Tryd.prog 3) M n D ∧ ∀ s : ByteArray, D.atKey (.string s.data.toList) (.lit (.int .i64 0)) = .lit (.int .i64 (g s))
section
variable {w w' : World} {M n : Nat} {g : ByteArray → Bool} {c : ByteArray → Int}
theorem SSet.lt (h : SSet w M n g) : M < w.heap.size := h.elim fun _ h => h.1.lt
theorem CMap.lt (h : CMap w M n c) : M < w.heap.size := h.elim fun _ h => h.1.lt
theorem SSet.same (h : SSet w M n g) (hb : w'.heap[M]? = w.heap[M]?) : SSet w' M n g := by
  obtain ⟨D, ⟨es, clock, h1, h2⟩, h3⟩ := h
  exact ⟨D, ⟨es, clock, hb.trans h1, h2⟩, h3⟩
theorem CMap.same (h : CMap w M n c) (hb : w'.heap[M]? = w.heap[M]?) : CMap w' M n c := by
  obtain ⟨D, ⟨es, clock, h1, h2⟩, h3⟩ := h
  exact ⟨D, ⟨es, clock, hb.trans h1, h2⟩, h3⟩
theorem SSet.heap (h : SSet w M n g) : ∃ es clock, w.heap[M]? = some (.map es clock) := by
  obtain ⟨D, ⟨es, clock, hb, _⟩, _⟩ := h
  exact ⟨es, clock, hb⟩
theorem CMap.heap (h : CMap w M n c) : ∃ es clock, w.heap[M]? = some (.map es clock) := by
  obtain ⟨D, ⟨es, clock, hb, _⟩, _⟩ := h
  exact ⟨es, clock, hb⟩
theorem SSet.kept (h : SSet w M n g) (hk : ∀ x, w.heap[M]? = some x → w'.heap[M]? = some x) : SSet w' M n g := by
  obtain ⟨es, clock, hb⟩ := h.heap
  exact h.same ((hk _ hb).trans hb.symm)
theorem CMap.kept (h : CMap w M n c) (hk : ∀ x, w.heap[M]? = some x → w'.heap[M]? = some x) : CMap w' M n c := by
  obtain ⟨es, clock, hb⟩ := h.heap
  exact h.same ((hk _ hb).trans hb.symm)
theorem SSet.made (w : World) : SSet (w.alloc (.map #[] 0)) w.heap.size 0 fun _ => false := ⟨_, World.ownsMap_made w _ _ _, fun _ => rfl⟩
theorem CMap.made (w : World) : CMap (w.alloc (.map #[] 0)) w.heap.size 0 fun _ => 0 := ⟨_, World.ownsMap_made w _ _ _, fun _ => rfl⟩
theorem SSet.look (h : SSet w M n g) (s : ByteArray) (hs : s.size ≤ maxLen) : (Instr.lookup 114 (.map (some M)) (.string s) true).run Tryd.prog w = .ok (.tuple #[.agg #[], .bool (g s)]) w := by
  obtain ⟨D, hD, hg⟩ := h
  obtain ⟨v, ps, hrun, hv⟩ := hD.look_ok K9 Tryd.underlying114 (zero50 w) (zd := .agg []) (zp := []) unitElem_mk (key9 s hs)
  obtain ⟨rfl, _⟩ := unitElem_inv hv
  rw [hrun, hg s]
theorem CMap.look (h : CMap w M n c) (s : ByteArray) (hs : s.size ≤ maxLen) : (Instr.lookup 83 (.map (some M)) (.string s) false).run Tryd.prog w = .ok (.int .i64 (c s)) w := by
  obtain ⟨D, hD, hg⟩ := h
  obtain ⟨v, hrun, hat, _⟩ := hD.lookup_int K9 Tryd.underlying83 Tryd.underlying3 (zero3 w) (key9 s hs)
  rw [hg s] at hat
  simp at hat
  rw [hrun, hat]
theorem SSet.put (h : SSet w M n g) (hn : n < maxLen) (s : ByteArray) (hs : s.size ≤ maxLen) :
    ∃ w', (Instr.mapUpdate 114 (.map (some M)) (.string s) (.agg #[])).run Tryd.prog w = .ok () w' ∧ SSet w' M (n + 1) (fun t => decide (t = s) || g t) ∧ w.mapTurned w' M := by
  obtain ⟨D, hD, hg⟩ := h
  obtain ⟨w', hrun, h1, h2⟩ := hD.store K9 Tryd.underlying114 hn (val := .agg #[]) (d := .agg []) (ps := []) (key9 s hs) unitElem_mk
  refine ⟨w', hrun, ⟨_, h1, fun t => ?_⟩, h2⟩
  have hK : WideAt.IsKeyLit (.string s.data.toList) := trivial
  by_cases e : t = s
  · subst e
    rw [has_put_same hD.isMap hK]
    simp
  · rw [has_put_other (lit_ne e), hg t]
    simp [e]
theorem CMap.put (h : CMap w M n c) (hn : n < maxLen) (s : ByteArray) (hs : s.size ≤ maxLen) (x : Int) (hx : (Lit.int .i64 x).wf = true) :
    ∃ w', (Instr.mapUpdate 83 (.map (some M)) (.string s) (.int .i64 x)).run Tryd.prog w = .ok () w' ∧ CMap w' M (n + 1) (fun t => if t = s then x else c t) ∧ w.mapTurned w' M := by
  obtain ⟨D, hD, hg⟩ := h
  obtain ⟨w', hrun, h1, h2⟩ := hD.store K9 Tryd.underlying83 hn (val := .int .i64 x) (d := .lit (.int .i64 x)) (ps := []) (key9 s hs) (plainElem_int Tryd.underlying3 hx)
  refine ⟨w', hrun, ⟨_, h1, fun t => ?_⟩, h2⟩
  have hK : WideAt.IsKeyLit (.string s.data.toList) := trivial
  dsimp only
  by_cases e : t = s
  · rw [if_pos e, e]
    exact atKey_put_same hD.isMap hK _ _
  · rw [if_neg e]
    exact (atKey_put_other (lit_ne e) _ _).trans (hg t)
end
section
variable (w : World) {ops : Array Oper} {rest : List Oper} {o : Oper} {a : Act} {Q : Exit → Act → World → Prop} {M n : Nat} {g : ByteArray → Bool} {c : ByteArray → Int}
theorem wpList_ss_look (hg : o.guard = none) (m x : Operand) (hop : o.op = Op.lookup 114 m x true) (hm : a.eval m = .map (some M)) (h : SSet w M n g) (s : ByteArray) (hx : a.eval x = .string s) (hs : s.size ≤ maxLen)
    (r : Bool) (hr : g s = r) (hK : wpList Tryd.prog ops Q rest (a.put o.dst (.tuple #[.agg #[], .bool r])) w) : wpList Tryd.prog ops Q (o :: rest) a w := by
  refine wpList_plain hg fun K' hK' => ?_
  unfold Oper.wp
  simp [execOp, hop, hm, hx, h.look s hs, Result.andThen]
  rw [hr]
  exact hK' _ _ hK
theorem wpList_ss_put (hg : o.guard = none) (m x v : Operand) (hop : o.op = Op.mapUpdate 114 m x v) (hm : a.eval m = .map (some M)) (h : SSet w M n g) (hn : n < maxLen) (s : ByteArray) (hx : a.eval x = .string s) (hs : s.size ≤ maxLen)
    (hv : a.eval v = .agg #[]) (hK : ∀ w', SSet w' M (n + 1) (fun t => decide (t = s) || g t) → w.mapTurned w' M → wpList Tryd.prog ops Q rest (a.put o.dst undef) w') : wpList Tryd.prog ops Q (o :: rest) a w := by
  refine wpList_plain hg fun K' hK' => ?_
  obtain ⟨w', hrun, h1, h2⟩ := h.put hn s hs
  unfold Oper.wp
  simp [execOp, hop, hm, hx, hv, hrun, Result.andThen]
  exact hK' _ _ (hK w' h1 h2)
end
end Go.Proofs.YtncebhddcokkoaaDoor
/- Vars, of the program. -/
namespace Go.Proofs.YtncebhddcokkoaaDoor
open Go.RowKit Go.Maps
theorem info9 : (Tryd.prog.info? 9).map (fun i => (i.zero, i.size, i.bytes)) = some (some (.string ⟨#[]⟩), 1, 16) := by kernel_rfl
theorem turned_below {B : Nat} {a w w' : World} {M : Nat} (h : Below B a w) (hB : B ≤ a.heap.size) (ht : w.mapTurned w' M) (hM : B ≤ M) : Below B a w' :=
  h.grown ht.grown (Nat.le_trans hB h.size) (fun k hk => by cases hk; exact hM)
def inN (n : ByteArray) (ns : List ByteArray) : Bool := ns.any fun t => decide (t = n)
theorem inN_snoc (s n : ByteArray) (ns : List ByteArray) : inN s (ns ++ [n]) = (decide (s = n) || inN s ns) := by
  unfold inN
  rw [List.any_append, Bool.or_comm]
  congr 1
  simp [eq_comm]
/-- How many terms there are. -/
def tszN : Nat → Tm → Nat
  | 0, _ => 0
  | d + 1, .mk _ _ _ _ kids => kids.foldl (fun n t => n + tszN d t) 1
/-- The variables of a term, put behind some. -/
def put1 (ns : List ByteArray) (k : Int) (n : ByteArray) : List ByteArray := if k = 1 ∧ inN n ns = false then ns ++ [n] else ns
def varsT : Nat → List ByteArray → Tm → List ByteArray
  | 0, ns, _ => ns
  | d + 1, ns, .mk k _ n _ kids => kids.foldl (varsT d) (put1 ns k n)
theorem put1_length (ns : List ByteArray) (k : Int) (n : ByteArray) : (put1 ns k n).length ≤ ns.length + 1 := by
  unfold put1
  split <;> simp
theorem foldl_add (f : Tm → Nat) (l : List Tm) (a : Nat) : l.foldl (fun n t => n + f t) a = a + l.foldl (fun n t => n + f t) 0 := by
  induction l generalizing a with
  | nil => rfl
  | cons x l ih => simp only [List.foldl_cons]; rw [ih, ih (0 + f x)]; omega
theorem varsL_length (d : Nat) (h : ∀ ns x, (varsT d ns x).length ≤ ns.length + tszN d x) (l : List Tm) (ns : List ByteArray) : (l.foldl (varsT d) ns).length ≤ ns.length + l.foldl (fun n t => n + tszN d t) 0 := by
  induction l generalizing ns with
  | nil => simp
  | cons x l ih =>
    simp only [List.foldl_cons]
    have h1 := ih (varsT d ns x)
    have h2 := h ns x
    rw [foldl_add (tszN d) l (0 + tszN d x)]
    omega
theorem varsT_length (d : Nat) : ∀ ns x, (varsT d ns x).length ≤ ns.length + tszN d x := by
  induction d with
  | zero => intro ns x; simp [varsT, tszN]
  | succ d ih =>
    intro ns x
    obtain ⟨k, p, n, N, kids⟩ := x
    have h1 := varsL_length d ih kids (put1 ns k n)
    have h2 := put1_length ns k n
    have h3 := foldl_add (tszN d) kids 1
    show (kids.foldl (varsT d) (put1 ns k n)).length ≤ ns.length + kids.foldl (fun n t => n + tszN d t) 1
    omega
/-- What the closure has: the set of names, their list, itself. -/
structure VarsSt (w : World) (base Bm Bn Bw M : Nat) (ns : List ByteArray) : Prop where
  met : w.heap[Bm]? = some (.cells #[.map (some M)] 114 (0, 0))
  walk : w.heap[Bw]? = some (.cells #[.func (.func 86) #[] #[.pointer (some ⟨Bm, 0, none⟩), .pointer (some ⟨Bn, 0, none⟩), .pointer (some ⟨Bw, 0, none⟩)]] 115 (0, 0))
  names : ∃ v, w.heap[Bn]? = some (.cells #[v] 33 (0, 0)) ∧ w.ownsRow base 9 1 v ns.length (ns.map .string)
  set : ∃ n, n ≤ ns.length ∧ SSet w M n (fun s => inN s ns)
  lo : base ≤ Bm ∧ base ≤ Bn ∧ base ≤ Bw ∧ base ≤ M
theorem VarsSt.kept {w w' : World} {base Bm Bn Bw M : Nat} {ns : List ByteArray} (h : VarsSt w base Bm Bn Bw M ns) (hk : ∀ (g : Nat) (x : Obj), w.heap[g]? = some x → w'.heap[g]? = some x) : VarsSt w' base Bm Bn Bw M ns := by
  obtain ⟨v, hv, ho⟩ := h.names
  obtain ⟨n, hn, hs⟩ := h.set
  exact ⟨hk _ _ h.met, hk _ _ h.walk, ⟨v, hk _ _ hv, own_kept ho fun g x _ hx => hk g x hx⟩, ⟨n, hn, hs.kept fun x hx => hk _ x hx⟩, h.lo⟩
theorem own_sl {w : World} {base : Nat} {e : TypeId} {size n : Nat} {v : Value} {xs : List Value} (h : w.ownsRow base e size v (n + 1) xs) : ∃ g cap, v = .slice (some ⟨g, 0, none⟩) (n + 1) cap := by
  rcases h.2 with ⟨_, h0⟩ | ⟨g, cap, cur, h1, _⟩
  · cases h0
  · exact ⟨g, cap, h1⟩
theorem VarsSt.next {w w1 w2 : World} {base Bm Bn Bw M n : Nat} {ns : List ByteArray} {n1 : ByteArray} {v v2 : Value} (h : VarsSt w base Bm Bn Bw M ns) (hv : w.heap[Bn]? = some (.cells #[v] 33 (0, 0))) (ho : w.ownsRow base 9 1 v ns.length (ns.map .string)) (hn : n ≤ ns.length)
    (hM : ∃ es clock, w.heap[M]? = some (.map es clock)) (hset : SSet w1 M (n + 1) (fun t => decide (t = n1) || inN t ns)) (ht : w.mapTurned w1 M)
    (ho2 : w2.ownsRow base 9 1 v2 (ns.length + 1) (ns.map .string ++ [.string n1])) (hg : (w1.alloc (.cells #[.string n1] 9)).grownBy w2 v.ownBlock) : VarsSt (w2.setCell ⟨Bn, 0, none⟩ v2) base Bm Bn Bw M (ns ++ [n1]) := by
  obtain ⟨es, clock, hM⟩ := hM
  have hgt := ht.grown
  have hne : ∀ {g : Nat} {cs : Array Value} {t : TypeId}, w.heap[g]? = some (.cells cs t (0, 0)) → g ≠ M := fun hx e => by rw [e, hM] at hx; cases hx
  have hst : ∀ {g : Nat} {cs : Array Value} {t : TypeId}, t ≠ 9 → w.heap[g]? = some (.cells cs t (0, 0)) → w2.heap[g]? = some (.cells cs t (0, 0)) := fun ht9 hx =>
    hb_grown (hb_alloc (hb_grown hx hgt (fun e => hne hx (Option.some.inj e))) _) hg (own_ne ho hx (fun cs f e => by cases e; exact ht9 rfl))
  have hbn := hst (by decide) hv
  have hmn : Bm ≠ Bn := fun e => by have h1 := h.met; rw [e, hv] at h1; cases h1
  have hwn : Bw ≠ Bn := fun e => by have h1 := h.walk; rw [e, hv] at h1; cases h1
  refine ⟨hb_set_other (hst (by decide) h.met) _ hmn, hb_set_other (hst (by decide) h.walk) _ hwn, ⟨v2, hb_set_same hbn 0 v2, ?_⟩, ⟨n + 1, by simp; omega, ?_⟩, h.lo⟩
  · rw [List.length_append, List.map_append]
    refine own_kept ho2 fun g x hv2 hx => hb_set_other hx _ (fun e => ?_)
    exact own_ne ho2 hbn (fun cs f e2 => by cases e2) (by rw [hv2, e])
  · have he : (fun s => inN s (ns ++ [n1])) = fun t => decide (t = n1) || inN t ns := by funext t; exact inN_snoc t n1 ns
    rw [he]
    refine hset.kept fun x hx => ?_
    have h2 := hb_grown (hb_alloc hx (.cells #[.string n1] 9)) hg (own_ne ho hM (fun cs f e => by cases e))
    exact hb_set_other h2 _ (fun e => by rw [e] at h2; obtain ⟨es', c', hx2⟩ := hset.heap; rw [hx] at hx2; cases hx2; rw [hbn] at h2; cases h2)
theorem below_next {w0 w w1 w2 : World} {Bn M : Nat} {n1 : ByteArray} {v v2 : Value} {ns : List ByteArray} (hB : Below w0.heap.size w0 w) (hM : w0.heap.size ≤ M) (hN : w0.heap.size ≤ Bn) (ht : w.mapTurned w1 M) (ho : w.ownsRow w0.heap.size 9 1 v ns.length (ns.map .string))
    (hg : (w1.alloc (.cells #[.string n1] 9)).grownBy w2 v.ownBlock) : Below w0.heap.size w0 (w2.setCell ⟨Bn, 0, none⟩ v2) := by
  have h1 := turned_below hB (Nat.le_refl _) ht hM
  have h2 := h1.alloc h1.size (.cells #[.string n1] 9)
  refine (h2.grown hg h2.size (fun k hk => ?_)).setCell hN _
  rcases ho.2 with ⟨rfl, _⟩ | ⟨g, cap, cur, rfl, hg2, _⟩
  · simp [Value.ownBlock] at hk
  · simp [Value.ownBlock] at hk; omega
/-- What a walk over some terms leaves. -/
def VarsR (w0 : World) (base Bm Bn Bw M : Nat) (ns : List ByteArray) (e : Ending) (w' : World) : Prop := e = .returned (.tuple #[]) ∧ VarsSt w' base Bm Bn Bw M ns ∧ Below base w0 w'
def varsTo (d k : Nat) (kids : List Tm) (ns : List ByteArray) : List ByteArray := (kids.take k).foldl (varsT d) ns
theorem varsTo_next {d k : Nat} {kids : List Tm} {ns : List ByteArray} (h : k < kids.length) : varsTo d (k + 1) kids ns = varsT d (varsTo d k kids ns) kids[k] := by
  unfold varsTo
  rw [List.take_succ_eq_append_getElem h, List.foldl_append]
  rfl
theorem room_at {d k B : Nat} {kids : List Tm} {ns : List ByteArray} (h : k < kids.length) (hr : ns.length + kids.foldl (fun n t => n + tszN d t) 0 ≤ B) : (varsTo d k kids ns).length + tszN d kids[k] ≤ B := by
  have h1 := varsL_length d (varsT_length d) (kids.take k) ns
  have h2 : kids.foldl (fun n t => n + tszN d t) 0 = (kids.take (k + 1) ++ kids.drop (k + 1)).foldl (fun n t => n + tszN d t) 0 := by rw [List.take_append_drop]
  rw [List.foldl_append, List.take_succ_eq_append_getElem h, List.foldl_append, foldl_add (tszN d) (kids.drop (k + 1))] at h2
  simp only [List.foldl_cons, List.foldl_nil] at h2
  unfold varsTo
  omega
set_option maxRecDepth 100000 in
set_option maxHeartbeats 4000000 in
theorem varsWalk_any (w0 : World) (Bm Bn Bw M : Nat) (d : Nat) : ∀ (kids : List Tm) (s : Value) (ns : List ByteArray) (w : World), KidsT w0 d s kids → Below w0.heap.size w0 w → VarsSt w w0.heap.size Bm Bn Bw M ns →
    ns.length + kids.foldl (fun n t => n + tszN d t) 0 ≤ 100000 →
    Calls Tryd.prog 86 #[s, .pointer (some ⟨Bm, 0, none⟩), .pointer (some ⟨Bn, 0, none⟩), .pointer (some ⟨Bw, 0, none⟩)] w (VarsR w0 w0.heap.size Bm Bn Bw M (kids.foldl (varsT d) ns)) := by
  induction d with
  | zero =>
    intro kids s ns w hk hB hS _
    obtain ⟨q, c, rfl, hm, hr⟩ := hk
    have h0 : kids = [] := by
      cases kids with
      | nil => rfl
      | cons x l => obtain ⟨_, _, _, _, _, _, _, _, _, h⟩ := hr 0 x rfl; cases h
    subst h0
    have HS := Lib.hid hS
    have HB := Lib.hid hB
    clear hr hS hB
    go_enter Tryd.func86, Tryd.ntmps86
    go_wp2
    go_loopw [11] (fun i wr => i = .int .i64 0 ∧ wr = w) (fun _ _ => 0)
    case atStart => exact ⟨rfl, rfl⟩
    case round =>
      obtain ⟨rfl, rfl⟩ := hrel
      go_wp2
      go_end0
      exact ⟨rfl, HS.out, HB.out⟩
  | succ d ih =>
    intro kids s ns w hk hB hS hroom
    obtain ⟨q, c, rfl, hm, hr⟩ := hk
    unfold maxLen at hm
    have HR := Lib.hid hr
    have HIH := Lib.hid ih
    have HS0 := Lib.hid hS
    have HB0 := Lib.hid hB
    have HROOM := Lib.hid hroom
    clear hr ih hS hB hroom
    go_enter Tryd.func86, Tryd.ntmps86
    go_wp2
    go_loopw [11] (fun i wr => ∃ k : Nat, k ≤ kids.length ∧ i = .int .i64 k ∧ VarsSt wr w0.heap.size Bm Bn Bw M (varsTo (d + 1) k kids ns) ∧ Below w0.heap.size w0 wr) (fun i _ => kids.length - (intOf i).toNat)
    case atStart => exact ⟨0, Nat.zero_le _, rfl, HS0.out, HB0.out⟩
    case round =>
      obtain ⟨k, hk, rfl, hS, hB⟩ := hrel
      have hzr := hB.size
      by_cases hlt : k < kids.length
      · have hx1 := List.getElem?_eq_getElem hlt
        have HN := Lib.hid (varsTo_next (d := d + 1) (ns := ns) hlt)
        have hroom2 : (varsTo (d + 1) k kids ns).length + tszN (d + 1) kids[k] ≤ 100000 := room_at hlt HROOM.out
        generalize varsTo (d + 1) k kids ns = ns1 at *
        generalize kids[k] = x at *
        obtain ⟨b1, o1, k1, p1, n1, N1, s1, hq1, ha1, ht1⟩ := HR.out k x hx1
        subst hq1
        obtain ⟨d2, k2, p2, n2, N2, s2, l2, e1, e2, e3, hp, hn, hkk⟩ := ht1.open
        injection e3 with e3
        simp at e3
        obtain ⟨rfl, rfl, rfl, rfl, rfl⟩ := e3
        subst e2
        obtain rfl : d = d2 := by omega
        obtain ⟨q3, l3, c3, hs3⟩ := ht1.spell
        subst hs3
        obtain ⟨x0, x1, x2, x3, x4⟩ := ha1.below hB ha1.lt
        have hroom3 : (put1 ns1 k1 n1).length + l2.foldl (fun n t => n + tszN d t) 0 ≤ 100000 := by
          have h1 := put1_length ns1 k1 n1
          have h2 : tszN (d + 1) (.mk k1 p1 n1 N1 l2) = l2.foldl (fun n t => n + tszN d t) 1 := rfl
          have h3 := foldl_add (tszN d) l2 1
          omega
        have HC : RowKit.Hid (∀ W, Below w0.heap.size w0 W → VarsSt W w0.heap.size Bm Bn Bw M (put1 ns1 k1 n1) → Calls Tryd.prog 86 #[.slice q3 l3 c3, .pointer (some ⟨Bm, 0, none⟩), .pointer (some ⟨Bn, 0, none⟩), .pointer (some ⟨Bw, 0, none⟩)] W (VarsR w0 w0.heap.size Bm Bn Bw M (varsT (d + 1) ns1 (.mk k1 p1 n1 N1 l2)))) :=
          Lib.hid fun W hW hV => HIH.out l2 _ _ W hkk hW hV hroom3
        have HS := Lib.hid hS
        have HB := Lib.hid hB
        obtain ⟨hmet, hwalk, ⟨v, hv, ho⟩, ⟨n, hnn, hset⟩, lo1, lo2, lo3, lo4⟩ := hS
        have hns : ns1.length ≤ 100000 := by omega
        have m0 : wr.cell? ⟨Bm, 0, none⟩ = some (.map (some M)) := hb_at hmet 0 rfl
        have m1 : wr.cell? ⟨Bw, 0, none⟩ = some (.func (.func 86) #[] #[.pointer (some ⟨Bm, 0, none⟩), .pointer (some ⟨Bn, 0, none⟩), .pointer (some ⟨Bw, 0, none⟩)]) := hb_at hwalk 0 rfl
        have hbm : Bm < wr.heap.size := hb_lt hmet
        have hbw : Bw < wr.heap.size := hb_lt hwalk
        have hbn : Bn < wr.heap.size := hb_lt hv
        have HSET := Lib.hid (hset.kept (w' := wr.alloc (.cells #[.int .i64 k1, .string p1, .string n1, .int .i64 N1, .slice q3 l3 c3] 36)) fun x hx => hb_alloc hx _)
        have HSA := Lib.hid ((HS.out.kept (w' := wr.alloc (.cells #[.int .i64 k1, .string p1, .string n1, .int .i64 N1, .slice q3 l3 c3] 36)) fun g x hx => hb_alloc hx _).kept (w' := (wr.alloc (.cells #[.int .i64 k1, .string p1, .string n1, .int .i64 N1, .slice q3 l3 c3] 36)).alloc (.cells #[] 116)) fun g x hx => hb_alloc hx _)
        clear hx1 ht1 ha1 hB hkk hroom2 hroom3 hmet hwalk hset
        by_cases hk1 : k1 = 1
        · subst hk1
          cases hin : inN n1 ns1
          · have hput : put1 ns1 1 n1 = ns1 ++ [n1] := by unfold put1; rw [if_pos ⟨rfl, hin⟩]
            obtain ⟨i0, hi, hz0, hz1, hz2⟩ := info_parts info9
            have HIN := Lib.hid hin
            have HI := Lib.hid hi
            have HZ0 := Lib.hid hz0
            have HZ1 := Lib.hid hz1
            have HZ2 := Lib.hid hz2
            obtain ⟨esM, clM, hMh⟩ := HSET.out.heap
            have hVB : ((wr.alloc (.cells #[.int .i64 1, .string p1, .string n1, .int .i64 N1, .slice q3 l3 c3] 36)).alloc (.cells #[] 116)).heap[Bn]? = some (.cells #[v] 33 (0, 0)) := hb_alloc (hb_alloc hv _) _
            have HVB := Lib.hid hVB
            have HOB : RowKit.Hid (((wr.alloc (.cells #[.int .i64 1, .string p1, .string n1, .int .i64 N1, .slice q3 l3 c3] 36)).alloc (.cells #[] 116)).ownsRow w0.heap.size 9 1 v ns1.length (ns1.map .string)) := Lib.hid (own_kept ho fun g x _ hx => hb_alloc (hb_alloc hx _) _)
            have hSETb : SSet ((wr.alloc (.cells #[.int .i64 1, .string p1, .string n1, .int .i64 N1, .slice q3 l3 c3] 36)).alloc (.cells #[] 116)) M n (fun s => inN s ns1) := HSET.out.kept fun x hx => hb_alloc hx _
            have HSETb := Lib.hid hSETb
            have HMb := Lib.hid hSETb.heap
            have HBb := Lib.hid (HB.out.trans ((below2 wr (.cells #[.int .i64 1, .string p1, .string n1, .int .i64 N1, .slice q3 l3 c3] 36) (.cells #[] 116)).mono hzr))
            have KBOX : RowKit.Hid (((wr.alloc (.cells #[.int .i64 1, .string p1, .string n1, .int .i64 N1, .slice q3 l3 c3] 36)).alloc (.cells #[] 116)).heap[wr.heap.size]? = some (.cells #[.int .i64 1, .string p1, .string n1, .int .i64 N1, .slice q3 l3 c3] 36 (0, 0))) := Lib.hid (hb_alloc (hb_new wr _) _)
            have hne : ∀ {g : Nat} {cs : Array Value} {t : TypeId}, ((wr.alloc (.cells #[.int .i64 1, .string p1, .string n1, .int .i64 N1, .slice q3 l3 c3] 36)).alloc (.cells #[] 116)).heap[g]? = some (.cells cs t (0, 0)) → some g ≠ some M := fun hx e => by
              obtain ⟨es, cl, hm2⟩ := hSETb.heap
              rw [Option.some.inj e, hm2] at hx; cases hx
            have HNE1 := Lib.hid (hne KBOX.out)
            have HNE2 := Lib.hid (hne hVB)
            have HNE3 := Lib.hid (hne HSA.out.walk)
            have HNEv : RowKit.Hid (v.ownBlock ≠ some M) := Lib.hid (fun e => by
              obtain ⟨es, cl, hm2⟩ := hSETb.heap
              exact own_ne HOB.out hm2 (fun cs f e2 => by cases e2) e.symm)
            have HPUT := Lib.hid hput
            have HHV := Lib.hid hv
            have HHO := Lib.hid ho
            have hbr : wr.heap.size + 2 = ((wr.alloc (.cells #[.int .i64 1, .string p1, .string n1, .int .i64 N1, .slice q3 l3 c3] 36)).alloc (.cells #[] 116)).heap.size := by simp
            clear hv ho hi hz0 hz1 hz2 hMh hVB hSETb hne hput hin
            go_wp2_with (first
              | (at_lookup; refine wpList_ss_look _ rfl _ _ rfl rfl HSET.out n1 rfl hn _ HIN.out ?_)
              | (at_mapUpdate; refine wpList_ss_put _ rfl _ _ _ rfl rfl HSETb.out (by unfold maxLen; omega) n1 rfl hn rfl ?_; intro w1 hset1 hturn1; have HSET1 := Lib.hid hset1; have HT1 := Lib.hid hturn1; have hz1 := hturn1.grown.size; have a1 : wr.heap.size < w1.heap.size := (by omega); have a2 : Bn < w1.heap.size := (by omega); have a3 : Bw < w1.heap.size := (by omega); have q2 : w1.cell? ⟨wr.heap.size, 2, none⟩ = some (.string n1) := hb_at (hb_grown KBOX.out hturn1.grown HNE1.out) 2 rfl; have q4 : w1.cell? ⟨wr.heap.size, 4, none⟩ = some (.slice q3 l3 c3) := hb_at (hb_grown KBOX.out hturn1.grown HNE1.out) 4 rfl; have qn : w1.cell? ⟨Bn, 0, none⟩ = some v := hb_at (hb_grown HVB.out hturn1.grown HNE2.out) 0 rfl; clear hset1 hturn1 hz1)
              | (at_builtin; refine wpList_append_own _ rfl _ _ 33 rfl w0.heap.size 9 i0 (.string ⟨#[]⟩) 1 16 Tryd.underlying33 HI.out HZ0.out HZ1.out HZ2.out rfl (by decide) v ns1.length (ns1.map .string) rfl ((World.ownsRow.kept HOB.out HT1.out.grown (.inr HNEv.out)).alloc _) ⟨w1.heap.size, 0, none⟩ 1 1 [.string n1] rfl rfl (fun j u hu => (by
                  rw [add_zero_none]
                  match j, hu with
                  | 0, hu => cases hu; exact hb_at (hb_new w1 _) 0 rfl
                  | j + 1, hu => simp at hu)) (by simp [Value.oneCell']) (by unfold maxLen; omega) (by omega) (by have := HBb.out.size; have := HT1.out.grown.size; simp; omega) ?_; intro v2 w2 hown2 hgrow2 _; obtain ⟨g2, cap2, hv2⟩ := own_sl hown2; subst hv2
                 have pnh := hb_grown (hb_alloc (hb_grown HVB.out HT1.out.grown HNE2.out) (.cells #[.string n1] 9)) hgrow2 (own_ne HOB.out HVB.out (fun cs f e => by cases e))
                 have p4h := hb_grown (hb_alloc (hb_grown KBOX.out HT1.out.grown HNE1.out) (.cells #[.string n1] 9)) hgrow2 (own_ne HOB.out KBOX.out (fun cs f e => by cases e))
                 have pwh := hb_grown (hb_alloc (hb_grown HSA.out.walk HT1.out.grown HNE3.out) (.cells #[.string n1] 9)) hgrow2 (own_ne HOB.out HSA.out.walk (fun cs f e => by cases e))
                 have hwn : Bw ≠ Bn := fun e => by rw [e, pnh] at pwh; cases pwh
                 have pn : w2.cell? ⟨Bn, 0, none⟩ = some v := hb_at pnh 0 rfl
                 have pf : w2.frozen? ⟨Bn, 0, none⟩ = false := hb_free pnh 0
                 have r4 : (w2.setCell ⟨Bn, 0, none⟩ (.slice (some ⟨g2, 0, none⟩) (ns1.length + 1) cap2)).cell? ⟨wr.heap.size, 4, none⟩ = some (.slice q3 l3 c3) := hb_at (hb_set_other p4h _ (by show wr.heap.size ≠ Bn; omega)) 4 rfl
                 have rw0 : (w2.setCell ⟨Bn, 0, none⟩ (.slice (some ⟨g2, 0, none⟩) (ns1.length + 1) cap2)).cell? ⟨Bw, 0, none⟩ = some (.func (.func 86) #[] #[.pointer (some ⟨Bm, 0, none⟩), .pointer (some ⟨Bn, 0, none⟩), .pointer (some ⟨Bw, 0, none⟩)]) := hb_at (hb_set_other pwh _ hwn) 0 rfl
                 have p4 : w2.cell? ⟨wr.heap.size, 4, none⟩ = some (.slice q3 l3 c3) := hb_at p4h 4 rfl
                 have pw : w2.cell? ⟨Bw, 0, none⟩ = some (.func (.func 86) #[] #[.pointer (some ⟨Bm, 0, none⟩), .pointer (some ⟨Bn, 0, none⟩), .pointer (some ⟨Bw, 0, none⟩)]) := hb_at pwh 0 rfl
                 have hrn : wr.heap.size ≠ Bn := (by omega)
                 have HC2 := Lib.hid (HC.out _ (below_next HBb.out lo4 lo2 HT1.out HOB.out hgrow2) (by rw [HPUT.out]; exact VarsSt.next HSA.out HVB.out HOB.out hnn HMb.out HSET1.out HT1.out hown2 hgrow2))
                 clear hown2 hgrow2 pnh p4h pwh)
              | (go_at_call 86; ((with_reducible refine HC2.out.mono ?_); rintro e w3 ⟨rfl, hV, hb⟩)))
            have HV := Lib.hid hV
            have HBq := Lib.hid hb
            go_roundw
            case rel => exact ⟨k + 1, by omega, by go_num, by rw [HN.out]; exact HV.out, HBq.out⟩
            case measure => simp [intOf]; omega
          · have hput : put1 ns1 1 n1 = ns1 := by unfold put1; rw [if_neg (fun h => by rw [hin] at h; cases h.2)]
            have HC2 := Lib.hid (HC.out _ (HB.out.trans ((below2 wr (.cells #[.int .i64 1, .string p1, .string n1, .int .i64 N1, .slice q3 l3 c3] 36) (.cells #[] 116)).mono hzr)) (by rw [hput]; exact HSA.out))
            have HIN := Lib.hid hin
            clear hput hin
            go_wp2_with (first
              | (at_lookup; refine wpList_ss_look _ rfl _ _ rfl rfl HSET.out n1 rfl hn _ HIN.out ?_)
              | (go_at_call 86; ((with_reducible refine HC2.out.mono ?_); rintro e w2 ⟨rfl, hV, hb⟩)))
            have HV := Lib.hid hV
            have HBq := Lib.hid hb
            go_roundw
            case rel => exact ⟨k + 1, by omega, by go_num, by rw [HN.out]; exact HV.out, HBq.out⟩
            case measure => simp [intOf]; omega
        · have hput : put1 ns1 k1 n1 = ns1 := by unfold put1; rw [if_neg (fun h => hk1 h.1)]
          have hk2 : (k1 == 1) = false := by simpa using hk1
          have HC2 := Lib.hid (HC.out _ (HB.out.trans ((below2 wr (.cells #[.int .i64 k1, .string p1, .string n1, .int .i64 N1, .slice q3 l3 c3] 36) (.cells #[] 116)).mono hzr)) (by rw [hput]; exact HSA.out))
          clear hk1 hput
          go_wp2_with (first
            | (at_lookup; refine wpList_ss_look _ rfl _ _ rfl rfl HSET.out n1 rfl hn _ rfl ?_)
            | (go_at_call 86; ((with_reducible refine HC2.out.mono ?_); rintro e w2 ⟨rfl, hV, hb⟩)))
          have HV := Lib.hid hV
          have HBq := Lib.hid hb
          go_roundw
          case rel => exact ⟨k + 1, by omega, by go_num, by rw [HN.out]; exact HV.out, HBq.out⟩
          case measure => simp [intOf]; omega
      · obtain rfl : k = kids.length := by omega
        have hall : varsTo (d + 1) kids.length kids ns = kids.foldl (varsT (d + 1)) ns := by unfold varsTo; rw [List.take_length]
        rw [hall] at hS
        have HS := Lib.hid hS
        have HB := Lib.hid hB
        clear hS hB hall
        go_wp2
        go_end0
        exact ⟨rfl, HS.out, HB.out⟩
/-- What Vars answers. -/
def VarsA (d : Nat) (kids : List Tm) (w : World) (e : Ending) (w' : World) : Prop := ∃ v, e = .returned v ∧ w'.ownsRow w.heap.size 9 1 v (kids.foldl (varsT d) []).length ((kids.foldl (varsT d) []).map .string) ∧ Below w.heap.size w w'
set_option maxRecDepth 100000 in
theorem vars_any (d : Nat) (kids : List Tm) (s : Value) (w : World) (hk : KidsT w d s kids) (hroom : kids.foldl (fun n t => n + tszN d t) 0 ≤ 100000) : Calls Tryd.prog 68 #[s] w (VarsA d kids w) := by
  have HW := Lib.hid (fun Bm Bn Bw M W hB hS => varsWalk_any w Bm Bn Bw M d kids s [] W hk hB hS (by simpa using hroom))
  obtain ⟨q, c, rfl, hm, hr⟩ := hk
  clear hr hroom
  have hmm := @run_makeMap Tryd.prog
  have c0 : ((((w.alloc (.cells #[.slice none 0 0] 33)).alloc (.map #[] 0)).alloc (.cells #[.map (some (w.heap.size + 1))] 114)).alloc (.cells #[(.func (.func 86) #[] #[.pointer (some ⟨w.heap.size + 1 + 1, 0, none⟩), .pointer (some ⟨w.heap.size, 0, none⟩), .pointer (some ⟨w.heap.size + 1 + 1 + 1, 0, none⟩)])] 115)).heap[w.heap.size]? = some (.cells #[.slice none 0 0] 33 (0, 0)) := hb_alloc (hb_alloc (hb_alloc (hb_new w _) _) _) _
  have c1 := hb_alloc (hb_alloc (hb_new (w.alloc (.cells #[.slice none 0 0] 33)) (.map #[] 0)) (.cells #[.map (some (w.heap.size + 1))] 114)) (.cells #[(.func (.func 86) #[] #[.pointer (some ⟨w.heap.size + 1 + 1, 0, none⟩), .pointer (some ⟨w.heap.size, 0, none⟩), .pointer (some ⟨w.heap.size + 1 + 1 + 1, 0, none⟩)])] 115)
  have c2 := hb_alloc (hb_new ((w.alloc (.cells #[.slice none 0 0] 33)).alloc (.map #[] 0)) (.cells #[.map (some (w.heap.size + 1))] 114)) (.cells #[(.func (.func 86) #[] #[.pointer (some ⟨w.heap.size + 1 + 1, 0, none⟩), .pointer (some ⟨w.heap.size, 0, none⟩), .pointer (some ⟨w.heap.size + 1 + 1 + 1, 0, none⟩)])] 115)
  have c3 := hb_new (((w.alloc (.cells #[.slice none 0 0] 33)).alloc (.map #[] 0)).alloc (.cells #[.map (some (w.heap.size + 1))] 114)) (.cells #[(.func (.func 86) #[] #[.pointer (some ⟨w.heap.size + 1 + 1, 0, none⟩), .pointer (some ⟨w.heap.size, 0, none⟩), .pointer (some ⟨w.heap.size + 1 + 1 + 1, 0, none⟩)])] 115)
  simp only [World.size_alloc] at c1 c2 c3
  have hset : SSet ((((w.alloc (.cells #[.slice none 0 0] 33)).alloc (.map #[] 0)).alloc (.cells #[.map (some (w.heap.size + 1))] 114)).alloc (.cells #[(.func (.func 86) #[] #[.pointer (some ⟨w.heap.size + 1 + 1, 0, none⟩), .pointer (some ⟨w.heap.size, 0, none⟩), .pointer (some ⟨w.heap.size + 1 + 1 + 1, 0, none⟩)])] 115)) (w.heap.size + 1) 0 (fun s => inN s []) := by
    have h := SSet.made (w.alloc (.cells #[.slice none 0 0] 33))
    rw [World.size_alloc] at h
    exact h.kept fun x hx => hb_alloc (hb_alloc hx _) _
  have hS : VarsSt ((((w.alloc (.cells #[.slice none 0 0] 33)).alloc (.map #[] 0)).alloc (.cells #[.map (some (w.heap.size + 1))] 114)).alloc (.cells #[(.func (.func 86) #[] #[.pointer (some ⟨w.heap.size + 1 + 1, 0, none⟩), .pointer (some ⟨w.heap.size, 0, none⟩), .pointer (some ⟨w.heap.size + 1 + 1 + 1, 0, none⟩)])] 115)) w.heap.size (w.heap.size + 1 + 1) w.heap.size (w.heap.size + 1 + 1 + 1) (w.heap.size + 1) [] :=
    ⟨c2, c3, ⟨_, c0, rfl, .inl ⟨rfl, rfl⟩⟩, ⟨0, Nat.le_refl _, hset⟩, by omega, by omega, by omega, by omega⟩
  have hB : Below w.heap.size w ((((w.alloc (.cells #[.slice none 0 0] 33)).alloc (.map #[] 0)).alloc (.cells #[.map (some (w.heap.size + 1))] 114)).alloc (.cells #[(.func (.func 86) #[] #[.pointer (some ⟨w.heap.size + 1 + 1, 0, none⟩), .pointer (some ⟨w.heap.size, 0, none⟩), .pointer (some ⟨w.heap.size + 1 + 1 + 1, 0, none⟩)])] 115)) := (below2 w _ _).trans ((below2 _ _ _).mono (by simp; omega))
  have HC := Lib.hid (HW.out _ _ _ _ _ hB hS)
  clear c0 c1 c2 c3 hset hS hB HW
  go_enter Tryd.func68, Tryd.ntmps68
  go_wp2_with (go_at_call 86; ((with_reducible refine HC.out.mono ?_); rintro e w2 ⟨rfl, hV, hb⟩; obtain ⟨_, _, ⟨v, hv, ho⟩, _, _⟩ := hV; have HO := Lib.hid ho; have HBq := Lib.hid hb; have pn : w2.cell? ⟨w.heap.size, 0, none⟩ = some v := hb_at hv 0 rfl; clear hv ho hb))
  go_ret
  exact ⟨v, rfl, HO.out, HBq.out⟩
end Go.Proofs.YtncebhddcokkoaaDoor
/- Texts that are the same; a variable's term. -/
namespace Go.Proofs.YtncebhddcokkoaaDoor
open Go.RowKit
/-- A slice of texts. -/
def SRow (w : World) (v : Value) (l : List ByteArray) : Prop := ∃ q c, v = .slice q l.length c ∧ ∀ i s, l[i]? = some s → ∃ g, q = some ⟨g, 0, none⟩ ∧ w.cell? ⟨g, i, none⟩ = some (.string s)
theorem SRow.own {w : World} {base n : Nat} {v : Value} {l : List ByteArray} (hn : n = l.length) (h : w.ownsRow base 9 1 v n (l.map .string)) : SRow w v l := by
  subst hn
  rcases h.2 with ⟨rfl, h0⟩ | ⟨g, cap, cur, rfl, _, hb, _, _, _, h4⟩
  · have : l = [] := List.eq_nil_of_length_eq_zero h0
    subst this
    exact ⟨none, 0, rfl, fun i s hs => by simp at hs⟩
  · refine ⟨_, cap, rfl, fun i s hs => ⟨g, rfl, ?_⟩⟩
    have hi : i < l.length := (List.getElem?_eq_some_iff.1 hs).1
    rw [hb_cell hb, ← Array.getElem?_toList, ← List.getElem?_take_of_lt (l := cur.toList) (i := i) (j := l.length * 1) (by omega), h4, List.getElem?_map, hs]
    rfl
theorem SRow.below {w w' : World} {v : Value} {l : List ByteArray} (h : SRow w v l) (hb : Below w.heap.size w w') : SRow w' v l := by
  obtain ⟨q, c, rfl, h⟩ := h
  refine ⟨q, c, rfl, fun i s hs => ?_⟩
  obtain ⟨g, rfl, hc⟩ := h i s hs
  exact ⟨g, rfl, keep_cell hb hc⟩
theorem kids_none (w : World) (d : Nat) : KidsT w d (.slice none 0 0) [] := ⟨none, 0, rfl, Nat.zero_le _, fun i x hx => by simp at hx⟩
theorem leaf_is (w : World) (d : Nat) (k : Int) (n : ByteArray) (hn : n.size ≤ maxLen) : IsT w (d + 1) (tv k ⟨#[]⟩ n 0 (.slice none 0 0)) (.mk k ⟨#[]⟩ n 0 []) := IsT.shut (Nat.zero_le _) hn (kids_none w d)
theorem KidsT.slice {w : World} {d : Nat} {s : Value} {kids : List Tm} (h : KidsT w d s kids) : ∃ q l c, s = .slice q l c := by
  obtain ⟨q, c, rfl, _⟩ := h
  exact ⟨q, _, c, rfl⟩
end Go.Proofs.YtncebhddcokkoaaDoor
