/- The texts Kc, Kd, Ke, Kf, Ki, Kg, Kh, one behind the other. -/
import Derived.Test.YtmfphnhdahaooaaM25
set_option linter.unusedSimpArgs false
set_option linter.unusedVariables false
/- The document's own store: step. -/
namespace Go.Proofs.Ytmfphnhdahaooaa
open Go.RowKit Go.Maps

def rsC (cap : Int) (fv dv lv tv : Value) (fa pw : Int) (off : Bool) : Array Value := #[.int .i64 cap, fv, dv, lv, tv, .int .i64 fa, .int .i64 pw, .bool off]

def IntP (e : Ending) : Prop := ∃ c, e = .returned (.int .i64 c)
def RSame (r : Nat) (cap : Int) (fv dv lv tv : Value) (w w' : World) : Prop := (∃ fa' pw' off', w'.heap[r]? = some (.cells (rsC cap fv dv lv tv fa' pw' off') 52 (0, 0))) ∧ w.grownBy w' (some r)

section
variable {w w' : World} {r : Nat} {cap fa pw : Int} {off : Bool} {fv dv lv tv : Value}
theorem RSame.refl (h : w.heap[r]? = some (.cells (rsC cap fv dv lv tv fa pw off) 52 (0, 0))) : RSame r cap fv dv lv tv w w := ⟨⟨_, _, _, h⟩, ⟨rfl, rfl, rfl, Nat.le_refl _, fun _ _ _ => rfl⟩⟩
theorem RSame.atFa (h : RSame r cap fv dv lv tv w w') (x : Int) : RSame r cap fv dv lv tv w (w'.setCell ⟨r, 5, none⟩ (.int .i64 x)) := by
  obtain ⟨⟨a, b, c, h1⟩, h2⟩ := h
  exact ⟨⟨x, b, c, hb_set_same h1 5 _⟩, World.grownBy.trans h2 (grown_at w' r 5 _)⟩
theorem RSame.atPw (h : RSame r cap fv dv lv tv w w') (x : Int) : RSame r cap fv dv lv tv w (w'.setCell ⟨r, 6, none⟩ (.int .i64 x)) := by
  obtain ⟨⟨a, b, c, h1⟩, h2⟩ := h
  exact ⟨⟨a, x, c, hb_set_same h1 6 _⟩, World.grownBy.trans h2 (grown_at w' r 6 _)⟩
theorem RSame.atOff (h : RSame r cap fv dv lv tv w w') (x : Bool) : RSame r cap fv dv lv tv w (w'.setCell ⟨r, 7, none⟩ (.bool x)) := by
  obtain ⟨⟨a, b, c, h1⟩, h2⟩ := h
  exact ⟨⟨a, b, x, hb_set_same h1 7 _⟩, World.grownBy.trans h2 (grown_at w' r 7 _)⟩

set_option maxRecDepth 100000 in
set_option maxHeartbeats 4000000 in
theorem rstep_any (h : w.heap[r]? = some (.cells (rsC cap fv dv lv tv fa pw off) 52 (0, 0))) : 
    Calls Try.prog 62 #[.pointer (some ⟨r, 0, none⟩)] w fun e w' => IntP e ∧ RSame r cap fv dv lv tv w w' := by
  have c5 : w.cell? ⟨r, 5, none⟩ = some (.int .i64 fa) := hb_at h 5 rfl
  have c6 : w.cell? ⟨r, 6, none⟩ = some (.int .i64 pw) := hb_at h 6 rfl
  have c7 : w.cell? ⟨r, 7, none⟩ = some (.bool off) := hb_at h 7 rfl
  have f5 := hb_free h 5
  have f6 := hb_free h 6
  have f7 := hb_free h 7
  have s6 : ∀ x, (w.setCell ⟨r, 5, none⟩ (.int .i64 x)).cell? ⟨r, 6, none⟩ = some (.int .i64 pw) := fun x => hb_at (hb_set_same h 5 _) 6 rfl
  have g6 : ∀ x, (w.setCell ⟨r, 5, none⟩ (.int .i64 x)).frozen? ⟨r, 6, none⟩ = false := fun x => hb_free (hb_set_same h 5 _) 6
  have t7 : (w.setCell ⟨r, 7, none⟩ (.bool true)).cell? ⟨r, 7, none⟩ = some (.bool true) := hb_at (hb_set_same h 7 _) 7 rfl
  have HS := Lib.hid (RSame.refl h)
  clear h
  by_cases e1 : pw = 0
  · subst e1
    go_enter Try.func62, Try.ntmps62
    go_wp2
    go_ret
    exact ⟨⟨_, rfl⟩, HS.out.atOff _⟩
  · cases off with
    | true =>
      go_enter Try.func62, Try.ntmps62
      go_wp2
      go_ret
      exact ⟨⟨_, rfl⟩, HS.out⟩
    | false =>
      go_enter Try.func62, Try.ntmps62
      go_wp2
      all_goals go_ret
      all_goals first
        | exact ⟨⟨_, rfl⟩, HS.out⟩
        | exact ⟨⟨_, rfl⟩, HS.out.atFa _⟩
        | exact ⟨⟨_, rfl⟩, HS.out.atPw _⟩
        | exact ⟨⟨_, rfl⟩, (HS.out.atFa _).atPw _⟩
end
end Go.Proofs.Ytmfphnhdahaooaa
/- The document's own store: without. -/
namespace Go.Proofs.Ytmfphnhdahaooaa
open Go.RowKit Go.Maps

theorem info115 : (Try.prog.info? 115).map (fun i => (i.zero, i.size, i.bytes)) = some (some (.agg #[.string ⟨#[]⟩, .int .i64 0]), 2, 24) := by kernel_rfl

def woE (es : List En) (s : ByteArray) : List En := es.filter fun e => !decide (e.name = s)
theorem wo_snoc {es : List En} {q : Nat} {e : En} (h : es[q]? = some e) (s : ByteArray) : woE (es.take (q + 1)) s = if e.name = s then woE (es.take q) s else woE (es.take q) s ++ [e] := by
  rw [List.take_add_one, h]
  unfold woE
  rw [List.filter_append]
  by_cases hs : e.name = s
  · simp [hs]
  · simp [hs]
theorem row_snoc {w : World} {B : Nat} {v : Value} {es : List En} {e : En} (h : w.ownsRow B 115 2 v (es.length + 1) (es.flatMap En.cells ++ e.cells)) : w.ownsRow B 115 2 v (es ++ [e]).length ((es ++ [e]).flatMap En.cells) := by
  rw [List.flatMap_append, List.length_append, List.flatMap_cons, List.flatMap_nil, List.append_nil]
  exact h
theorem wo_len (es : List En) (s : ByteArray) : (woE es s).length ≤ es.length := List.length_filter_le _ _

def RowE (w : World) (B : Nat) (v : Value) (es : List En) : Prop := w.ownsRow B 115 2 v es.length (es.flatMap En.cells)
def RowEP (es : List En) (w : World) (e : Ending) (w' : World) : Prop := ∃ v, e = .returned v ∧ RowE w' w.heap.size v es ∧ Below w.heap.size w w'

set_option maxRecDepth 100000 in
set_option maxHeartbeats 4000000 in
theorem rwithout_any {w : World} {ao : Option Addr} {es : List En} {c : Nat} (h : Ents w ao es) (hl : es.length ≤ 100000) (s : ByteArray) :
    Calls Try.prog 75 #[.slice ao es.length c, .string s] w (RowEP (woE es s) w) := by
  obtain ⟨i0, hi, hz0, hz1, hz2⟩ := info_parts info115
  have H := Lib.hid h
  obtain ⟨len, hlen⟩ : ∃ len, len = es.length := ⟨_, rfl⟩
  obtain ⟨r, hr⟩ : ∃ r, r = woE es s := ⟨_, rfl⟩
  rw [← hlen] at hl ⊢
  rw [← hr]
  have HLEN := Lib.hid hlen
  have HR := Lib.hid hr
  clear h hlen hr
  go_enter Try.func75, Try.ntmps75
  go_upto_region 3 with fail
  go_loopw [5, 6] (fun o i wr => ∃ q : Nat, q ≤ len ∧ i = .int .i64 q ∧ Hid (RowE wr w.heap.size o (woE (es.take q) s)) ∧ Hid (Below w.heap.size w wr)) (fun _ i _ => len - (intOf i).toNat)
  case atStart => exact ⟨0, Nat.zero_le _, rfl, Lib.hid (World.ownsRow_nil _ _ _ _), Lib.hid (Below.refl _ _)⟩
  case round =>
    obtain ⟨q, hq, rfl, HO, HB⟩ := hrel
    by_cases hlt : q < len
    · obtain ⟨e, he⟩ : ∃ e, es[q]? = some e := ⟨_, List.getElem?_eq_getElem (by rw [← HLEN.out]; exact hlt)⟩
      obtain ⟨b, off, rfl, d0, d1⟩ := H.out q e he
      have hbl := World.block_lt_of_cell? w _ d0
      have e0 : wr.cell? ⟨b, off + q * 2, none⟩ = some (.string e.name) := by rw [HB.out.cell (p := ⟨b, off + q * 2, none⟩) hbl]; exact d0
      have e1 : wr.cell? ⟨b, off + q * 2 + 1, none⟩ = some (.int .i64 (e.f : Nat)) := by rw [HB.out.cell (p := ⟨b, off + q * 2 + 1, none⟩) hbl]; exact d1
      have hsn := wo_snoc he s
      clear d0 d1 he
      by_cases hes : e.name = s
      · rw [if_pos hes] at hsn
        have HSN := Lib.hid hsn
        clear hsn
        subst hes
        go_wp2
        exact ⟨⟨q + 1, by omega, by go_num, Lib.hid (by rw [HSN.out]; exact HO.out), HB⟩, by simp [intOf]; omega⟩
      · rw [if_neg hes] at hsn
        have HSN := Lib.hid hsn
        have hne : (e.name.toList == s.toList) = false := tl_ne hes
        have hlk : (woE (es.take q) s).length ≤ 100000 := by
          have := wo_len (es.take q) s
          simp at this
          omega
        have hbs := HB.out.size
        clear hsn
        go_wp2_with (first
          | (at_builtin; refine wpList_append_lies _ rfl _ _ 49 rfl w.heap.size 115 i0 _ 2 24 Try.underlying49 hi hz0 hz1 hz2 rfl (by decide) _ (woE (es.take q) s).length ((woE (es.take q) s).flatMap En.cells) rfl (HO.out.alloc _) ⟨wr.heap.size, 0, none⟩ 1 1 e.cells rfl rfl (new_cells _ _ _ _ rfl) (by simp [En.cells, Value.oneCell']) (by decide) (by unfold maxLen; omega) (by omega) (by simp; omega) _ rfl ?_; intro g2 cap2 w2 hown2 hg2 hat2 hlt2)
          | go_in)
        have hg3 : (wr.alloc (.cells #[.string e.name, .int .i64 (e.f : Nat)] 115)).grownBy w2 u5.ownBlock := hg2
        refine ⟨⟨q + 1, by omega, by go_num, Lib.hid ?_, Lib.hid ?_⟩, by simp [intOf]; omega⟩
        · rw [HSN.out]
          exact row_snoc hown2
        · exact (HB.out.alloc hbs _).grown hg3 (by simp; omega) (fun j hj => (HO.out.lt j hj).1)
    · obtain rfl : q = len := by omega
      go_wp2
      go_ret
      have h := HO.out
      rw [List.take_of_length_le (by rw [HLEN.out]; exact Nat.le_refl _), ← HR.out] at h
      exact ⟨_, rfl, h, HB.out⟩
end Go.Proofs.Ytmfphnhdahaooaa
/- The document's own store, whole. -/
namespace Go.Proofs.Ytmfphnhdahaooaa
open Go.RowKit Go.Maps

/-- A row of structs of n cells, read at one of them. -/
theorem row_at {α : Type} {w : World} {B c k i : Nat} {e : TypeId} {cs : α → List Value} {l : List α} {x : α} {ao : Option Addr} (hk : ∀ a, (cs a).length = k) (h : w.ownsRow B e k (.slice ao l.length c) l.length (l.flatMap cs)) (hx : l[i]? = some x) :
    ∃ g, ao = some ⟨g, 0, none⟩ ∧ B ≤ g ∧ ∀ j v, (cs x)[j]? = some v → w.cell? ⟨g, i * k + j, none⟩ = some v := by
  have hl : i < l.length := (List.getElem?_eq_some_iff.1 hx).1
  rcases h.2 with ⟨e, h0⟩ | ⟨g, cap, cur, e, hB, hb, _, _, _, hx2⟩
  · omega
  · simp at e
    have hat : ∀ (l : List α) (i : Nat) (t : α), l[i]? = some t → ∀ j, j < k → (l.flatMap cs)[i * k + j]? = (cs t)[j]? := by
      intro l
      induction l with
      | nil => intro i t h; simp at h
      | cons a l ih =>
        intro i t hh j hj
        cases i with
        | zero =>
          obtain rfl : a = t := by simpa using hh
          rw [List.flatMap_cons, List.getElem?_append_left (by rw [hk]; omega)]
          simp
        | succ i =>
          have hp : (i + 1) * k + j = k + (i * k + j) := by rw [Nat.add_mul]; omega
          rw [List.flatMap_cons, List.getElem?_append_right (by rw [hk, hp]; omega), ← ih i t (by simpa using hh) j hj]
          congr 1
          rw [hk, hp]
          omega
    refine ⟨g, e.1, hB, fun j v hv => ?_⟩
    have hj : j < k := by rw [← hk x]; exact (List.getElem?_eq_some_iff.1 hv).1
    have h1 := hat l i x hx j hj
    rw [hv, ← hx2, List.getElem?_take] at h1
    rw [hb_cell hb]
    split at h1
    · simpa using h1
    · cases h1

theorem ents_row {w : World} {B c : Nat} {ao : Option Addr} {es : List En} (h : RowE w B (.slice ao es.length c) es) : Ents w ao es := by
  intro i e he
  obtain ⟨g, rfl, _, h1⟩ := row_at (cs := En.cells) (fun _ => rfl) h he
  exact ⟨g, 0, rfl, by rw [Nat.zero_add]; exact h1 0 _ rfl, by rw [Nat.zero_add]; exact h1 1 _ rfl⟩

theorem find_lt {es : List En} {n : Nat} (h : ∀ e ∈ es, e.f < n) (s : ByteArray) : findE es s = -1 ∨ ∃ k : Nat, k < n ∧ findE es s = (k : Nat) := by
  induction es with
  | nil => exact .inl rfl
  | cons e es ih =>
    unfold findE
    split
    · exact .inr ⟨e.f, h e (List.mem_cons_self ..), rfl⟩
    · exact ih fun x hx => h x (List.mem_cons_of_mem _ hx)

structure RF where
  now : ByteArray
  lasts : ByteArray
def RF.cells (f : RF) : List Value := [.string f.now, .string f.lasts]
structure RT where
  kind : Nat
  name : ByteArray
  dst : ByteArray
  f : Nat
def RT.cells (t : RT) : List Value := [.int .i64 (t.kind : Nat), .string t.name, .string t.dst, .int .i64 (t.f : Nat)]

/-- The document's own store in the heap. -/
structure Ref (w : World) (B r k : Nat) (cap : Int) (fv dv lv tv : Value) (fs : List RF) (ds ls : List En) (ts : List RT) : Prop where
  store : ∃ fa pw off, w.heap[r]? = some (.cells (rsC cap fv dv lv tv fa pw off) 52 (0, 0))
  files : w.ownsRow B 108 2 fv fs.length (fs.flatMap RF.cells)
  dir : RowE w B dv ds
  lasts : RowE w B lv ls
  turns : w.ownsRow B 111 4 tv ts.length (ts.flatMap RT.cells)
  new : B ≤ r
  fit : (∀ e ∈ ds, e.f < fs.length) ∧ (∀ e ∈ ls, e.f < fs.length) ∧ ∀ t ∈ ts, t.kind = 0 → t.f < fs.length
  small : ∀ f ∈ fs, f.now.size ≤ 1048576 ∧ f.lasts.size ≤ 1048576
  few : fs.length ≤ k ∧ ds.length ≤ k ∧ ls.length ≤ k ∧ ls.length + ts.length ≤ k

/-- What a call on it may have turned. -/
structure RFrm (B : Nat) (w w' : World) : Prop where
  size : w.heap.size ≤ w'.heap.size
  rest : w'.os = w.os ∧ w'.tape = w.tape ∧ w'.output = w.output
  below : ∀ b, b < B → w'.heap[b]? = w.heap[b]?
  other : ∀ (b : Nat) (x : Obj), (∀ cs t f, x = .cells cs t f → t ≠ 52 ∧ t ≠ 108 ∧ t ≠ 111 ∧ t ≠ 115) → w.heap[b]? = some x → w'.heap[b]? = some x

theorem RFrm.refl (B : Nat) (w : World) : RFrm B w w := ⟨Nat.le_refl _, ⟨rfl, rfl, rfl⟩, fun _ _ => rfl, fun _ _ _ h => h⟩
theorem RFrm.trans {B : Nat} {a b c : World} (h : RFrm B a b) (k : RFrm B b c) : RFrm B a c :=
  ⟨Nat.le_trans h.size k.size, ⟨k.rest.1.trans h.rest.1, k.rest.2.1.trans h.rest.2.1, k.rest.2.2.trans h.rest.2.2⟩, fun i hi => (k.below i hi).trans (h.below i hi), fun i x hx h1 => k.other i x hx (h.other i x hx h1)⟩
theorem RFrm.ofGrown {B F : Nat} {w w' : World} {cs : Array Value} {t : TypeId} {f : Nat × Nat} (h : w.grownBy w' (some F)) (hF : w.heap[F]? = some (.cells cs t f)) (ht : t = 52 ∨ t = 108 ∨ t = 111 ∨ t = 115) (hB : B ≤ F) : RFrm B w w' :=
  ⟨h.size, ⟨h.os, h.tape, h.output⟩, fun b hb => h.block b (by have := hb_lt hF; omega) (by simp; omega), fun b x hx h1 => hb_grown h1 h (fun e => by
    have e2 := Option.some.inj e
    rw [e2, hF] at h1
    obtain ⟨n1, n2, n3, n4⟩ := hx cs t f (Option.some.inj h1).symm
    rcases ht with e | e | e | e
    · exact n1 e
    · exact n2 e
    · exact n3 e
    · exact n4 e)⟩
theorem RFrm.ofBelow {B : Nat} {w w' : World} (h : Below w.heap.size w w') (hB : B ≤ w.heap.size) : RFrm B w w' :=
  ⟨h.size, ⟨h.os, h.tape, h.output⟩, fun b hb => h.block b (by omega), fun b x _ hx => hb_below hx h (hb_lt hx)⟩

section
variable {w w' : World} {B r k : Nat} {cap : Int} {fv dv lv tv : Value} {fs : List RF} {ds ls : List En} {ts : List RT}
theorem Ref.step (h : Ref w B r k cap fv dv lv tv fs ds ls ts) (hs : RSame r cap fv dv lv tv w w') : Ref w' B r k cap fv dv lv tv fs ds ls ts ∧ RFrm B w w' := by
  obtain ⟨⟨fa', pw', off', h1⟩, hg⟩ := hs
  obtain ⟨fa, pw, off, h0⟩ := h.store
  have hrow : ∀ {v : Value} {e : TypeId} {size n : Nat} {xs : List Value}, e ≠ 52 → w.ownsRow B e size v n xs → w'.ownsRow B e size v n xs := fun he ho =>
    own_kept ho fun g x hg2 hx => hb_grown hx hg (by rw [← hg2]; exact Ne.symm (own_ne ho h0 (fun cs f e2 => he (by simp at e2; exact e2.2.1.symm))))
  exact ⟨⟨⟨_, _, _, h1⟩, hrow (by decide) h.files, hrow (by decide) h.dir, hrow (by decide) h.lasts, hrow (by decide) h.turns, h.new, h.fit, h.small, h.few⟩, RFrm.ofGrown hg h0 (.inl rfl) h.new⟩
/-- All that was there is there. -/
theorem Ref.kept (h : Ref w B r k cap fv dv lv tv fs ds ls ts) (hk : ∀ (b : Nat) (cs : Array Value) (t : TypeId) (f : Nat × Nat), t = 52 ∨ t = 108 ∨ t = 111 ∨ t = 115 → w.heap[b]? = some (.cells cs t f) → w'.heap[b]? = some (.cells cs t f)) : Ref w' B r k cap fv dv lv tv fs ds ls ts := by
  obtain ⟨fa, pw, off, h0⟩ := h.store
  have hrow : ∀ {v : Value} {e : TypeId} {size n : Nat} {xs : List Value}, (e = 52 ∨ e = 108 ∨ e = 111 ∨ e = 115) → w.ownsRow B e size v n xs → w'.ownsRow B e size v n xs := by
    intro v e size n xs he ho
    refine own_kept ho fun g x hg2 hx => ?_
    rcases ho.2 with ⟨e, _⟩ | ⟨g2, cap, cur, e, _, hb, _⟩
    · rw [e] at hg2; cases hg2
    · rw [e] at hg2
      obtain rfl : g2 = g := by simpa [Value.ownBlock] using hg2
      rw [hb] at hx
      obtain rfl := Option.some.inj hx
      exact hk _ _ _ _ he hb
  exact ⟨⟨_, _, _, hk _ _ _ _ (.inl rfl) h0⟩, hrow (.inr (.inl rfl)) h.files, hrow (.inr (.inr (.inr rfl))) h.dir, hrow (.inr (.inr (.inr rfl))) h.lasts, hrow (.inr (.inr (.inl rfl))) h.turns, h.new, h.fit, h.small, h.few⟩
end
end Go.Proofs.Ytmfphnhdahaooaa
/- The document's own store: Fsync. -/
namespace Go.Proofs.Ytmfphnhdahaooaa
open Go.RowKit Go.Maps

theorem flat_set {α : Type} {k : Nat} {cs : α → List Value} (hk : ∀ a, (cs a).length = k) (u : Value) (j : Nat) (hj : j < k) : ∀ (l : List α) (i : Nat) (x y : α), l[i]? = some x → (cs x).set j u = cs y → (l.flatMap cs).set (i * k + j) u = (l.set i y).flatMap cs := by
  intro l
  induction l with
  | nil => intro i x y h; simp at h
  | cons a l ih =>
    intro i x y h he
    cases i with
    | zero =>
      obtain rfl : a = x := by simpa using h
      rw [List.flatMap_cons, List.set_cons_zero, List.flatMap_cons, List.set_append_left _ _ (by rw [hk]; omega), Nat.zero_mul, Nat.zero_add, he]
    | succ i =>
      have hp : (i + 1) * k + j = k + (i * k + j) := by rw [Nat.add_mul]; omega
      rw [List.flatMap_cons, List.set_cons_succ, List.flatMap_cons, List.set_append_right _ _ (by rw [hk, hp]; omega), hk, hp, Nat.add_sub_cancel_left, ih i x y (by simpa using h) he]

def ROk (w : World) (B r k : Nat) : Prop := ∃ cap fv dv lv tv fs ds ls ts, Ref w B r k cap fv dv lv tv fs ds ls ts
def ROpP (B r k : Nat) (w : World) (e : Ending) (w' : World) : Prop := IntP e ∧ ROk w' B r k ∧ RFrm B w w'

section
variable {w w' : World} {B r k : Nat} {cap : Int} {fv dv lv tv : Value} {fs : List RF} {ds ls : List En} {ts : List RT}
/-- A file has another text. -/
theorem Ref.refile {c g i j : Nat} {x y : RF} {t : ByteArray} (h : Ref w B r k cap (.slice (some ⟨g, 0, none⟩) fs.length c) dv lv tv fs ds ls ts) (hx : fs[i]? = some x) (hj : j < 2) (he : (RF.cells x).set j (.string t) = RF.cells y) (hy : y.now.size ≤ 1048576 ∧ y.lasts.size ≤ 1048576) :
    Ref (w.setCell ⟨g, i * 2 + j, none⟩ (.string t)) B r k cap (.slice (some ⟨g, 0, none⟩) fs.length c) dv lv tv (fs.set i y) ds ls ts ∧ RFrm B w (w.setCell ⟨g, i * 2 + j, none⟩ (.string t)) := by
  have hi : i < fs.length := (List.getElem?_eq_some_iff.1 hx).1
  obtain ⟨fa, pw, off, h0⟩ := h.store
  have hgt := (h.files.lt g rfl)
  obtain ⟨cap2, cur, fz, hb⟩ : ∃ (cap2 : Nat) (cur : Array Value) (fz : Nat × Nat), w.heap[g]? = some (.cells cur 108 fz) := by
    rcases h.files.2 with ⟨e, _⟩ | ⟨g2, cap, cur, e, _, hb, _⟩
    · simp at e
    · simp at e
      exact ⟨0, cur, _, e.1 ▸ hb⟩
  have hg : w.grownBy (w.setCell ⟨g, i * 2 + j, none⟩ (.string t)) (some g) := grown_set _ _ _
  have hrow : ∀ {v : Value} {e : TypeId} {size n : Nat} {xs : List Value}, e ≠ 108 → w.ownsRow B e size v n xs → (w.setCell ⟨g, i * 2 + j, none⟩ (.string t)).ownsRow B e size v n xs := fun he ho =>
    own_kept ho fun g2 x hg2 hx => hb_grown hx hg (by rw [← hg2]; exact Ne.symm (own_ne ho hb (fun cs f e2 => he (by simp at e2; exact e2.2.1.symm))))
  have hst := h.files.stored (i * 2 + j) (.string t)
  refine ⟨⟨⟨_, _, _, hb_grown h0 hg (by simp; exact tag_ne h0 hb (by decide))⟩, ?_, hrow (by decide) h.dir, hrow (by decide) h.lasts, hrow (by decide) h.turns, h.new, ?_, ?_, ?_⟩, RFrm.ofGrown hg hb (.inr (.inl rfl)) hgt.1⟩
  · rw [List.length_set, ← flat_set (k := 2) (fun _ => rfl) (.string t) j hj fs i x y hx he]
    exact hst.1
  · rw [List.length_set]; exact h.fit
  · intro f hf
    rcases List.mem_or_eq_of_mem_set hf with h1 | rfl
    · exact h.small f h1
    · exact hy
  · rw [List.length_set]; exact h.few

set_option maxRecDepth 100000 in
set_option maxHeartbeats 8000000 in
theorem rfsync_any (h : Ref w B r k cap fv dv lv tv fs ds ls ts) (hk : k ≤ 100000) (hB : B ≤ w.heap.size) (s : ByteArray) (hs : s.size ≤ maxLen) : Calls Try.prog 35 #[.pointer (some ⟨r, 0, none⟩), .string s] w (ROpP B r k w) := by
  obtain ⟨fa, pw, off, h0⟩ := h.store
  obtain ⟨fo, fc, rfl, hfc⟩ := own_sl h.files
  obtain ⟨dao, dc, rfl, hdc⟩ := own_sl h.dir
  have c2 : w.cell? ⟨r, 2, none⟩ = some (.slice dao ds.length dc) := hb_at h0 2 rfl
  have hen := ents_row h.dir
  have H := Lib.hid h
  have H0 := Lib.hid h0
  have HE := Lib.hid hen
  have HS := Lib.hid hs
  have hdl : ds.length ≤ 100000 := Nat.le_trans h.few.2.1 hk
  have hfl := find_lt h.fit.1 s
  clear h h0 hen hs
  obtain ⟨x, hx⟩ : ∃ x, x = findE ds s := ⟨_, rfl⟩
  rw [← hx] at hfl
  have HX := Lib.hid hx
  clear hx
  go_enter Try.func35, Try.ntmps35
  go_upto_region 3 with (first
    | (go_at_call 60; refine (rname_any s HS.out _).mono ?_; rintro e w' ⟨⟨b, rfl⟩, rfl⟩; cases b)
    | go_in)
  all_goals first
    | (go_ret; exact ⟨⟨_, rfl⟩, ⟨_, _, _, _, _, _, _, _, _, H.out⟩, RFrm.refl _ _⟩)
    | skip
  rcases hfl with rfl | ⟨i, hi, rfl⟩
  · go_wp2_with (first
      | (go_at_call 61; refine (by rw [HX.out]; exact rfind_any HE.out hdl s : Calls Try.prog 61 #[.slice dao ds.length dc, .string s] w fun e w' => e = .returned (.int .i64 (-1)) ∧ w = w').mono ?_; rintro e w' ⟨rfl, rfl⟩)
      | go_in)
    go_ret
    exact ⟨⟨_, rfl⟩, ⟨_, _, _, _, _, _, _, _, _, H.out⟩, RFrm.refl _ _⟩
  · obtain ⟨f, hf⟩ : ∃ f, fs[i]? = some f := ⟨_, List.getElem?_eq_getElem hi⟩
    obtain ⟨g, rfl, hBg, hcell⟩ := row_at (cs := RF.cells) (fun _ => rfl) H.out.files hf
    have HF := Lib.hid hf
    have hsm := H.out.small f (List.mem_of_getElem? hf)
    have HSM := Lib.hid hsm
    clear hf hsm hcell
    go_upto_region 7 with (first
      | (go_at_call 61; refine (by rw [HX.out]; exact rfind_any HE.out hdl s : Calls Try.prog 61 #[.slice dao ds.length dc, .string s] w fun e w' => e = .returned (.int .i64 (i : Nat)) ∧ w = w').mono ?_; rintro e w' ⟨rfl, rfl⟩)
      | (go_at_call 62; refine (rstep_any H0.out).mono ?_; rintro e w1 ⟨⟨cd, rfl⟩, hS⟩)
      | go_in)
    obtain ⟨hR1, hF1⟩ := H.out.step hS
    obtain ⟨fa1, pw1, off1, h1⟩ := hR1.store
    have d1 : w1.cell? ⟨r, 1, none⟩ = some (.slice (some ⟨g, 0, none⟩) fs.length fc) := hb_at h1 1 rfl
    obtain ⟨g', eg, _, hcell⟩ := row_at (cs := RF.cells) (fun _ => rfl) hR1.files HF.out
    obtain rfl : g = g' := by simpa using eg
    have d2 : w1.cell? ⟨g, i * 2, none⟩ = some (.string f.now) := hcell 0 _ rfl
    have d3 : w1.cell? ⟨g, i * 2 + 1, none⟩ = some (.string f.lasts) := hcell 1 _ rfl
    have f3 : w1.frozen? ⟨g, i * 2 + 1, none⟩ = false := hR1.files.frozenAt _
    have HR1 := Lib.hid hR1
    have HF1 := Lib.hid hF1
    clear hcell hR1 hF1 h1 hS eg
    by_cases hcd : cd = 0
    · subst hcd
      go_upto_region 8 with fail
      go_region_with fail
      all_goals
        go_wp2_with fail
        go_ret
        obtain ⟨hr2, hf2⟩ := HR1.out.refile (t := f.now) (y := { f with lasts := f.now }) HF.out (j := 1) (by omega) rfl ⟨HSM.out.1, HSM.out.1⟩
        have hf3 := HF1.out.trans hf2
        exact ⟨⟨_, rfl⟩, ⟨_, _, _, _, _, _, _, _, _, hr2.kept fun _ _ _ _ _ hx => hx⟩, ⟨hf3.size, hf3.rest, hf3.below, hf3.other⟩⟩
    · go_wp2
      go_ret
      exact ⟨⟨_, rfl⟩, ⟨_, _, _, _, _, _, _, _, _, HR1.out⟩, HF1.out⟩
end
end Go.Proofs.Ytmfphnhdahaooaa
/- The document's own store: Used. -/
namespace Go.Proofs.Ytmfphnhdahaooaa
open Go.RowKit Go.Maps

section
variable {w w' : World} {B r k : Nat} {cap : Int} {fv dv lv tv : Value} {fs : List RF} {ds ls : List En} {ts : List RT}
set_option maxRecDepth 100000 in
set_option maxHeartbeats 8000000 in
theorem rused_any (h : Ref w B r k cap fv dv lv tv fs ds ls ts) (hk : k ≤ 100000) : Calls Try.prog 41 #[.pointer (some ⟨r, 0, none⟩)] w fun e w' => IntP e ∧ Below w.heap.size w w' := by
  obtain ⟨dao, dc, rfl, hdc⟩ := own_sl h.dir
  obtain ⟨fo, fc, rfl, hfc⟩ := own_sl h.files
  have hen := ents_row h.dir
  have hdl : ds.length ≤ 100000 := Nat.le_trans h.few.2.1 hk
  obtain ⟨len, hlen⟩ : ∃ len, len = ds.length := ⟨_, rfl⟩
  have H := Lib.hid h
  have HE := Lib.hid hen
  have HLEN := Lib.hid hlen
  obtain ⟨fa, pw, off, h0⟩ := h.store
  rw [← hlen] at h0 hdl
  have H0 := Lib.hid h0
  clear h hen hlen h0
  go_enter Try.func41, Try.ntmps41
  go_upto_region 3 with fail
  go_loopw [3, 4] (fun n i wr => (∃ x : Int, n = .int .i64 x) ∧ ∃ q : Nat, q ≤ len ∧ i = .int .i64 q ∧ Hid (Below w.heap.size w wr)) (fun _ i _ => len - (intOf i).toNat)
  case atStart => exact ⟨⟨0, rfl⟩, 0, Nat.zero_le _, rfl, Lib.hid (Below.refl _ _)⟩
  case round =>
    obtain ⟨⟨x, rfl⟩, q, hq, rfl, HB⟩ := hrel
    have hR := hb_below H0.out HB.out (hb_lt H0.out)
    have d1 : wr.cell? ⟨r, 1, none⟩ = some (.slice fo fs.length fc) := hb_at hR 1 rfl
    have d2 : wr.cell? ⟨r, 2, none⟩ = some (.slice dao len dc) := hb_at hR 2 rfl
    clear hR
    by_cases hlt : q < len
    · obtain ⟨e, he⟩ : ∃ e, ds[q]? = some e := ⟨_, List.getElem?_eq_getElem (by rw [← HLEN.out]; exact hlt)⟩
      obtain ⟨b, off2, rfl, a0, a1⟩ := HE.out q e he
      have hbl := World.block_lt_of_cell? w _ a1
      have e1 : wr.cell? ⟨b, off2 + q * 2 + 1, none⟩ = some (.int .i64 (e.f : Nat)) := by rw [HB.out.cell (p := ⟨b, off2 + q * 2 + 1, none⟩) hbl]; exact a1
      have hef := H.out.fit.1 e (List.mem_of_getElem? he)
      obtain ⟨f, hf⟩ : ∃ f, fs[e.f]? = some f := ⟨_, List.getElem?_eq_getElem hef⟩
      have hsm := (H.out.small f (List.mem_of_getElem? hf)).1
      obtain ⟨g, rfl, _, hcell⟩ := row_at (cs := RF.cells) (fun _ => rfl) H.out.files hf
      have b0 : w.cell? ⟨g, e.f * 2, none⟩ = some (.string f.now) := hcell 0 _ rfl
      have hgl := World.block_lt_of_cell? w _ b0
      have e3 : wr.cell? ⟨g, e.f * 2, none⟩ = some (.string f.now) := by rw [HB.out.cell (p := ⟨g, e.f * 2, none⟩) hgl]; exact b0
      clear a0 a1 he hf hcell b0 hgl hbl
      go_upto_region 5 with fail
      go_region_with (go_at_call 63; refine (rsectors_any f.now.size (by omega) _).mono ?_; rintro e w' ⟨rfl, rfl⟩)
      all_goals
        go_wp2_with fail
        exact ⟨⟨⟨_, rfl⟩, q + 1, by omega, by go_num, Lib.hid HB.out.drew⟩, by simp [intOf]; omega⟩
    · obtain rfl : q = len := by omega
      go_wp2
      go_ret
      exact ⟨⟨_, rfl⟩, HB.out⟩
end
end Go.Proofs.Ytmfphnhdahaooaa
/- The document's own store: Truncate. -/
namespace Go.Proofs.Ytmfphnhdahaooaa
open Go.RowKit Go.Maps

section
variable {w w' : World} {B r k : Nat} {cap : Int} {fv dv lv tv : Value} {fs : List RF} {ds ls : List En} {ts : List RT}
set_option maxRecDepth 100000 in
set_option maxHeartbeats 8000000 in
theorem rtrunc_any (h : Ref w B r k cap fv dv lv tv fs ds ls ts) (hk : k ≤ 100000) (hB : B ≤ w.heap.size) (s : ByteArray) (hs : s.size ≤ maxLen) (n : Int) : Calls Try.prog 34 #[.pointer (some ⟨r, 0, none⟩), .string s, .int .i64 n] w (ROpP B r k w) := by
  obtain ⟨fa, pw, off, h0⟩ := h.store
  obtain ⟨fo, fc, rfl, hfc⟩ := own_sl h.files
  obtain ⟨dao, dc, rfl, hdc⟩ := own_sl h.dir
  have c1 : w.cell? ⟨r, 1, none⟩ = some (.slice fo fs.length fc) := hb_at h0 1 rfl
  have c2 : w.cell? ⟨r, 2, none⟩ = some (.slice dao ds.length dc) := hb_at h0 2 rfl
  have hen := ents_row h.dir
  have H := Lib.hid h
  have H0 := Lib.hid h0
  have HE := Lib.hid hen
  have HS := Lib.hid hs
  have hdl : ds.length ≤ 100000 := Nat.le_trans h.few.2.1 hk
  have hfl := find_lt h.fit.1 s
  clear h h0 hen hs
  obtain ⟨x, hx⟩ : ∃ x, x = findE ds s := ⟨_, rfl⟩
  rw [← hx] at hfl
  have HX := Lib.hid hx
  clear hx
  by_cases hn : n < 0
  · go_enter Try.func34, Try.ntmps34
    go_wp2_with (first
      | (go_at_call 60; refine (rname_any s HS.out _).mono ?_; rintro e w' ⟨⟨b, rfl⟩, rfl⟩; cases b)
      | go_in)
    all_goals (go_ret; exact ⟨⟨_, rfl⟩, ⟨_, _, _, _, _, _, _, _, _, H.out⟩, RFrm.refl _ _⟩)
  obtain ⟨j, rfl⟩ : ∃ j : Nat, n = j := ⟨n.toNat, by omega⟩
  clear hn
  go_enter Try.func34, Try.ntmps34
  go_upto_region 3 with (first
    | (go_at_call 60; refine (rname_any s HS.out _).mono ?_; rintro e w' ⟨⟨b, rfl⟩, rfl⟩; cases b)
    | go_in)
  all_goals first
    | (go_ret; exact ⟨⟨_, rfl⟩, ⟨_, _, _, _, _, _, _, _, _, H.out⟩, RFrm.refl _ _⟩)
    | skip
  rcases hfl with rfl | ⟨i, hi, rfl⟩
  · go_wp2_with (first
      | (go_at_call 61; refine (by rw [HX.out]; exact rfind_any HE.out hdl s : Calls Try.prog 61 #[.slice dao ds.length dc, .string s] w fun e w' => e = .returned (.int .i64 (-1)) ∧ w = w').mono ?_; rintro e w' ⟨rfl, rfl⟩)
      | go_in)
    go_ret
    exact ⟨⟨_, rfl⟩, ⟨_, _, _, _, _, _, _, _, _, H.out⟩, RFrm.refl _ _⟩
  · obtain ⟨f, hf⟩ : ∃ f, fs[i]? = some f := ⟨_, List.getElem?_eq_getElem hi⟩
    obtain ⟨g, rfl, hBg, hcell⟩ := row_at (cs := RF.cells) (fun _ => rfl) H.out.files hf
    have b2 : w.cell? ⟨g, i * 2, none⟩ = some (.string f.now) := hcell 0 _ rfl
    have HF := Lib.hid hf
    have hsm := H.out.small f (List.mem_of_getElem? hf)
    have HSM := Lib.hid hsm
    clear hf hsm hcell
    by_cases hj : f.now.size < j
    · go_wp2_with (first
        | (go_at_call 61; refine (by rw [HX.out]; exact rfind_any HE.out hdl s : Calls Try.prog 61 #[.slice dao ds.length dc, .string s] w fun e w' => e = .returned (.int .i64 (i : Nat)) ∧ w = w').mono ?_; rintro e w' ⟨rfl, rfl⟩)
        | go_in)
      go_ret
      exact ⟨⟨_, rfl⟩, ⟨_, _, _, _, _, _, _, _, _, H.out⟩, RFrm.refl _ _⟩
    · go_upto_region 9 with (first
        | (go_at_call 61; refine (by rw [HX.out]; exact rfind_any HE.out hdl s : Calls Try.prog 61 #[.slice dao ds.length dc, .string s] w fun e w' => e = .returned (.int .i64 (i : Nat)) ∧ w = w').mono ?_; rintro e w' ⟨rfl, rfl⟩)
        | (go_at_call 62; refine (rstep_any H0.out).mono ?_; rintro e w1 ⟨⟨cd, rfl⟩, hS⟩)
        | go_in)
      obtain ⟨hR1, hF1⟩ := H.out.step hS
      obtain ⟨fa1, pw1, off1, h1⟩ := hR1.store
      have d1 : w1.cell? ⟨r, 1, none⟩ = some (.slice (some ⟨g, 0, none⟩) fs.length fc) := hb_at h1 1 rfl
      obtain ⟨g', eg, _, hcell⟩ := row_at (cs := RF.cells) (fun _ => rfl) hR1.files HF.out
      obtain rfl : g = g' := by simpa using eg
      have d2 : w1.cell? ⟨g, i * 2, none⟩ = some (.string f.now) := hcell 0 _ rfl
      have f3 : w1.frozen? ⟨g, i * 2, none⟩ = false := hR1.files.frozenAt _
      have HR1 := Lib.hid hR1
      have HF1 := Lib.hid hF1
      clear hcell hR1 hF1 h1 hS eg
      by_cases hcd : cd = 0
      · subst hcd
        go_upto_region 10 with fail
        go_region_with fail
        all_goals
          go_wp2_with fail
          go_ret
          obtain ⟨hr2, hf2⟩ := HR1.out.refile (t := f.now.extract 0 j) (y := { f with now := f.now.extract 0 j }) HF.out (j := 0) (by omega) rfl ⟨by have := HSM.out.1; simp only [ByteArray.size_extract]; omega, HSM.out.2⟩
          have hf3 := HF1.out.trans hf2
          exact ⟨⟨_, rfl⟩, ⟨_, _, _, _, _, _, _, _, _, hr2.kept fun _ _ _ _ _ hx => hx⟩, ⟨hf3.size, hf3.rest, hf3.below, hf3.other⟩⟩
      · go_wp2
        go_ret
        exact ⟨⟨_, rfl⟩, ⟨_, _, _, _, _, _, _, _, _, HR1.out⟩, HF1.out⟩
end
end Go.Proofs.Ytmfphnhdahaooaa
/- The document's own store: SyncDir. -/
namespace Go.Proofs.Ytmfphnhdahaooaa
open Go.RowKit Go.Maps

section
variable {w w' : World} {B r k : Nat} {cap : Int} {fv dv lv tv : Value} {fs : List RF} {ds ls : List En} {ts : List RT}
theorem Ref.synced {w2 : World} {lv2 : Value} (h : Ref w B r k cap fv dv lv tv fs ds ls ts) (hb : Below w.heap.size w w2) (hB : B ≤ w.heap.size) (hl : RowE w2 B lv2 ds) :
    Ref ((w2.setCell ⟨r, 3, none⟩ lv2).setCell ⟨r, 4, none⟩ (.slice none 0 0)) B r k cap fv dv lv2 (.slice none 0 0) fs ds ds [] ∧ RFrm B w ((w2.setCell ⟨r, 3, none⟩ lv2).setCell ⟨r, 4, none⟩ (.slice none 0 0)) := by
  have h2 := h.kept (w' := w2) fun _ _ _ _ _ hx => hb_below hx hb (hb_lt hx)
  obtain ⟨fa, pw, off, h0⟩ := h2.store
  have hg := World.grownBy.trans (grown_at w2 r 3 lv2) (grown_at _ r 4 (.slice none 0 0))
  have hs := hb_set_same (hb_set_same h0 3 lv2) 4 (.slice none 0 0)
  have hrow : ∀ {v : Value} {e : TypeId} {size n : Nat} {xs : List Value}, e ≠ 52 → w2.ownsRow B e size v n xs → ((w2.setCell ⟨r, 3, none⟩ lv2).setCell ⟨r, 4, none⟩ (.slice none 0 0)).ownsRow B e size v n xs := fun he ho =>
    own_kept ho fun g2 x hg2 hx => hb_grown hx hg (by rw [← hg2]; exact Ne.symm (own_ne ho h0 (fun cs f e2 => he (by simp at e2; exact e2.2.1.symm))))
  exact ⟨⟨⟨fa, pw, off, hs⟩, hrow (by decide) h2.files, hrow (by decide) h2.dir, hrow (by decide) hl, World.ownsRow_nil _ _ _ _, h.new, ⟨h.fit.1, h.fit.1, fun t ht => by cases ht⟩, h.small, ⟨h.few.1, h.few.2.1, h.few.2.1, h.few.2.1⟩⟩,
    (RFrm.ofBelow hb hB).trans (RFrm.ofGrown hg h0 (.inl rfl) h.new)⟩

theorem run_append_zero0 {P : Program} {w : World} (t ty e : TypeId) (i : TypeInfo) (ht : P.underlying t = some (.slice e)) (hi : P.info? e = some i) (ao : Option Addr) (n cap : Nat) (hnc : n ≤ cap) :
    (Builtin.append_ #[t, t] ty #[.slice ao n cap, .slice none 0 0]).run P w = .ok (.slice ao n cap) w := by
  cases ao <;> simp [Builtin.append_, run_underlying ht, sizeOf, typeInfo, hi, Builtin.lenOf, Builtin.firstCells, hnc, storeCells, loadCells, loadCellsFrom]

set_option maxRecDepth 100000 in
set_option maxHeartbeats 8000000 in
theorem rsync_any (h : Ref w B r k cap fv dv lv tv fs ds ls ts) (hk : k ≤ 100000) (hB : B ≤ w.heap.size) : Calls Try.prog 38 #[.pointer (some ⟨r, 0, none⟩)] w (ROpP B r k w) := by
  obtain ⟨fa, pw, off, h0⟩ := h.store
  have H := Lib.hid h
  have H0 := Lib.hid h0
  have hdl : ds.length ≤ 100000 := Nat.le_trans h.few.2.1 hk
  clear h h0
  obtain ⟨i0, hi, hz0, hz1, hz2⟩ := info_parts info115
  go_enter Try.func38, Try.ntmps38
  go_upto_region 2 with (first
    | (go_at_call 62; refine (rstep_any H0.out).mono ?_; rintro e w1 ⟨⟨cd, rfl⟩, hS⟩)
    | go_in)
  obtain ⟨hR1, hF1⟩ := H.out.step hS
  obtain ⟨fa1, pw1, off1, h1⟩ := hR1.store
  have hB1 : B ≤ w1.heap.size := Nat.le_trans hB hF1.size
  have HR1 := Lib.hid hR1
  have HF1 := Lib.hid hF1
  have HH1 := Lib.hid h1
  clear hR1 hF1 hS h1
  by_cases hcd : cd = 0
  · subst hcd
    rcases HR1.out.dir.2 with ⟨hd, hn0⟩ | ⟨g, dcap, cur, hd, hBg, hbg, hnc, hcm, hcs, htk⟩
    · have d2 : w1.cell? ⟨r, 2, none⟩ = some (.slice none 0 0) := by rw [← hd]; exact hb_at HH1.out 2 rfl
      have d2a : ∀ o, (w1.alloc o).cell? ⟨r, 2, none⟩ = some (.slice none 0 0) := fun o => by rw [← hd]; exact hb_at (hb_alloc HH1.out o) 2 rfl
      have f3 : ∀ o, (w1.alloc o).frozen? ⟨r, 3, none⟩ = false := fun o => hb_free (hb_alloc HH1.out o) 3
      have f4 : ∀ o v, ((w1.alloc o).setCell ⟨r, 3, none⟩ v).frozen? ⟨r, 4, none⟩ = false := fun o v => hb_free (hb_set_same (hb_alloc HH1.out o) 3 v) 4
      have t3 : ∀ o, (w1.alloc o).cell? ⟨r, 3, none⟩ = some lv := fun o => hb_at (hb_alloc HH1.out o) 3 rfl
      have t4 : ∀ o v, ((w1.alloc o).setCell ⟨r, 3, none⟩ v).cell? ⟨r, 4, none⟩ = some tv := fun o v => hb_at (hb_set_same (hb_alloc HH1.out o) 3 v) 4 rfl
      have hap := fun w => run_append_zero0 (P := Try.prog) (w := w) 49 49 115 i0 Try.underlying49 hi (some ⟨w1.heap.size, 0, none⟩) 0 0 (Nat.le_refl _)
      go_upto_region 4 with fail
      go_wp2
      go_ret
      have hds : ds = [] := List.eq_nil_of_length_eq_zero hn0
      have hrow : RowE (w1.alloc (.cells #[] 115)) B (.slice (some ⟨w1.heap.size, 0, none⟩) 0 0) ds := by rw [hds]; exact own_base (World.ownsRow_made w1 #[] 0 (Nat.le_refl _) (by decide) rfl) hB1
      obtain ⟨r1, r2⟩ := HR1.out.synced (below1 w1 _) hB1 hrow
      exact ⟨⟨_, rfl⟩, ⟨_, _, _, _, _, _, _, _, _, r1⟩, HF1.out.trans r2⟩
    · have d2 : w1.cell? ⟨r, 2, none⟩ = some (.slice (some ⟨g, 0, none⟩) ds.length dcap) := by rw [← hd]; exact hb_at HH1.out 2 rfl
      have HD : Hid (w1.ownsRow B 115 2 (.slice (some ⟨g, 0, none⟩) ds.length dcap) ds.length (ds.flatMap En.cells)) := Lib.hid (by rw [← hd]; exact HR1.out.dir)
      have d2a : ∀ o, (w1.alloc o).cell? ⟨r, 2, none⟩ = some (.slice (some ⟨g, 0, none⟩) ds.length dcap) := fun o => by rw [← hd]; exact hb_at (hb_alloc HH1.out o) 2 rfl
      rcases Nat.eq_zero_or_pos ds.length with hn0 | hm
      · have d2z : w1.cell? ⟨r, 2, none⟩ = some (.slice (some ⟨g, 0, none⟩) 0 dcap) := by rw [hn0] at d2; exact d2
        clear d2 d2a
        have d2a : ∀ o, (w1.alloc o).cell? ⟨r, 2, none⟩ = some (.slice (some ⟨g, 0, none⟩) 0 dcap) := fun o => by have q : (w1.alloc o).cell? ⟨r, 2, none⟩ = some dv := hb_at (hb_alloc HH1.out o) 2 rfl; rw [hd, hn0] at q; exact q
        have f3 : ∀ o, (w1.alloc o).frozen? ⟨r, 3, none⟩ = false := fun o => hb_free (hb_alloc HH1.out o) 3
        have f4 : ∀ o v, ((w1.alloc o).setCell ⟨r, 3, none⟩ v).frozen? ⟨r, 4, none⟩ = false := fun o v => hb_free (hb_set_same (hb_alloc HH1.out o) 3 v) 4
        have t3 : ∀ o, (w1.alloc o).cell? ⟨r, 3, none⟩ = some lv := fun o => hb_at (hb_alloc HH1.out o) 3 rfl
        have t4 : ∀ o v, ((w1.alloc o).setCell ⟨r, 3, none⟩ v).cell? ⟨r, 4, none⟩ = some tv := fun o v => hb_at (hb_set_same (hb_alloc HH1.out o) 3 v) 4 rfl
        have hap := fun w => run_append_zero (P := Try.prog) (w := w) 49 49 115 i0 Try.underlying49 hi (some ⟨w1.heap.size, 0, none⟩) 0 0 (Nat.le_refl _) ⟨g, 0, none⟩ dcap
        go_upto_region 4 with fail
        go_wp2
        go_ret
        have hds : ds = [] := List.eq_nil_of_length_eq_zero hn0
        have hrow : RowE (w1.alloc (.cells #[] 115)) B (.slice (some ⟨w1.heap.size, 0, none⟩) 0 0) ds := by rw [hds]; exact own_base (World.ownsRow_made w1 #[] 0 (Nat.le_refl _) (by decide) rfl) hB1
        obtain ⟨r1, r2⟩ := HR1.out.synced (below1 w1 _) hB1 hrow
        exact ⟨⟨_, rfl⟩, ⟨_, _, _, _, _, _, _, _, _, r1⟩, HF1.out.trans r2⟩
      · have hone : ∀ u ∈ ds.flatMap En.cells, u.oneCell' = true := by
          intro u hu
          obtain ⟨e, _, he⟩ := List.mem_flatMap.1 hu
          simp [En.cells] at he
          rcases he with rfl | rfl <;> rfl
        have HONE := Lib.hid hone
        have hln : (ds.flatMap En.cells).length = ds.length * 2 := HR1.out.dir.1
        have HLN := Lib.hid hln
        clear hone hln hd hbg hnc hcm hcs htk
        go_upto_region 4 with (first
          | (at_builtin; refine wpList_append_lies _ rfl _ _ 49 rfl w1.heap.size 115 i0 _ 2 24 Try.underlying49 hi hz0 hz1 hz2 rfl (by decide) _ 0 [] rfl (World.ownsRow_made w1 #[] 0 (Nat.le_refl _) (by decide) rfl) ⟨g, 0, none⟩ ds.length dcap (ds.flatMap En.cells) rfl HLN.out ((HD.out.alloc _).cells rfl) HONE.out hm (by unfold maxLen; omega) (by omega) (by simp) _ rfl ?_; intro g2 cap2 w2 hown2 hg2 hat2 hlt2
             have hb2 : Below w1.heap.size w1 w2 := below_grown (below1 _ _) hg2 (by simp) (Nat.le_refl _)
             have hF2 := hb_below HH1.out hb2 (hb_lt HH1.out)
             have f3 := hb_free hF2 3
             have f4 : ∀ v, (w2.setCell ⟨r, 3, none⟩ v).frozen? ⟨r, 4, none⟩ = false := fun v => hb_free (hb_set_same hF2 3 v) 4
             have t3 : w2.cell? ⟨r, 3, none⟩ = some lv := hb_at hF2 3 rfl
             have t4 : ∀ v, (w2.setCell ⟨r, 3, none⟩ v).cell? ⟨r, 4, none⟩ = some tv := fun v => hb_at (hb_set_same hF2 3 v) 4 rfl)
          | go_in)
        go_wp2
        go_ret
        simp only [Nat.zero_add, List.nil_append] at hown2
        have hb2 : Below w1.heap.size w1 w2 := below_grown (below1 _ _) hg2 (by simp) (Nat.le_refl _)
        obtain ⟨r1, r2⟩ := HR1.out.synced hb2 hB1 (own_base hown2 hB1)
        exact ⟨⟨_, rfl⟩, ⟨_, _, _, _, _, _, _, _, _, r1⟩, HF1.out.trans r2⟩
  · go_wp2
    go_ret
    exact ⟨⟨_, rfl⟩, ⟨_, _, _, _, _, _, _, _, _, HR1.out⟩, HF1.out⟩
end
end Go.Proofs.Ytmfphnhdahaooaa
