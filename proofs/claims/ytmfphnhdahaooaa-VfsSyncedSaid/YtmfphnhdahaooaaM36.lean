/- The texts Lh, one behind the other. -/
import Derived.Test.YtmfphnhdahaooaaM33
set_option linter.unusedSimpArgs false
set_option linter.unusedVariables false
/- What a crash leaves where all survives, and where nothing was told; rows of integers and of files that survive. -/
namespace Go.Proofs.Ytmfphnhdahaooaa
open Go.RowKit Go.Maps
set_option linter.unusedSimpArgs false
set_option linter.unusedVariables false
theorem dirTo_all {told : Nat → Bool} {ts : List Tn} (h : ∀ i, i < ts.length → told i = true) (g : ByteArray → Option Nat) : ∀ q, q ≤ ts.length → dirTo told ts q g = (ts.take q).foldl appT g := by
  intro q
  induction q with
  | zero => intro _; rfl
  | succ q ih =>
    intro hq
    obtain ⟨t, ht⟩ : ∃ t, ts[q]? = some t := ⟨_, List.getElem?_eq_getElem (by omega)⟩
    unfold dirTo
    simp only [ht]
    rw [if_pos (h q (by omega)), ih (by omega), List.take_add_one, ht]
    simp [List.foldl_append]
theorem dirTo_none {told : Nat → Bool} {ts : List Tn} (h : ∀ i, told i = false) (g : ByteArray → Option Nat) : ∀ q, dirTo told ts q g = g := by
  intro q
  induction q with
  | zero => rfl
  | succ q ih =>
    unfold dirTo
    cases ht : ts[q]? with
    | none => exact ih
    | some t =>
      simp only
      rw [if_neg (by rw [h q]; simp), ih]
theorem stage_all {kp : Nat → Bool} {xs ls : List Value} (h : ∀ j, j < xs.length → kp (j / 512) = true ∨ xs = ls) : stage kp xs ls xs.length (sz xs.length) = xs := by
  apply List.ext_getElem?
  intro j
  by_cases hj : j < xs.length
  · rw [stage_at _ _ _ _ _ _ hj, if_pos (by unfold sz; omega)]
    unfold finV
    have e : (if kp (j / 512) = true then xs else ls) = xs := by
      rcases h j hj with h1 | h1
      · rw [if_pos h1]
      · rw [← h1]; split <;> rfl
    rw [e, List.getD_eq_getElem?_getD, List.getElem?_eq_getElem hj]
    rfl
  · rw [List.getElem?_eq_none (by rw [stage_len]; omega), List.getElem?_eq_none (by omega)]
/-- A file of which all is told survives whole. -/
theorem leave_all {gt : ByteArray → Option Sv} {s : ByteArray} {f : Fil} {x : Sv} (hx : gt s = some x) (hl : x.long = true) (h : ∀ j : Nat, j < f.xs.length → ((j / 512 : Nat) : Int) ∈ x.zs) : leaveL gt s f = f.xs := by
  unfold leaveL
  rw [hx]
  simp only [hl, if_true]
  refine stage_all fun j hj => .inl ?_
  show keptSet gt s ((j / 512 : Nat) : Int) = true
  unfold keptSet
  rw [hx]
  exact decide_eq_true (h j hj)
/-- One that lasts as it is stays so, whatever is told of it. -/
theorem leave_same {gt : ByteArray → Option Sv} {s : ByteArray} {f : Fil} (h : f.xs = f.ls) : leaveL gt s f = f.xs := by
  unfold leaveL
  split
  · rename_i x _
    have e : (if x.long = true then f.xs.length else f.ls.length) = f.xs.length := by rw [← h]; split <;> rfl
    rw [e]
    exact stage_all fun j hj => .inr h
  · exact h.symm
theorem sumF_perm {d : ByteArray → Option Nat} {fi : Nat → Option Fil} {l l' : List ByteArray} (h : l.Perm l') : sumF d fi l = sumF d fi l' := by
  induction h with
  | nil => rfl
  | cons x _ ih =>
    unfold sumF at ih ⊢
    simp only [List.map_cons, List.sum_cons]
    omega
  | swap x y l =>
    unfold sumF
    simp only [List.map_cons, List.sum_cons]
    omega
  | trans _ _ h1 h2 => exact h1.trans h2
theorem SumD.same {u u' : Int} {d d' : ByteArray → Option Nat} {fi fi' : Nat → Option Fil} (h : SumD u d fi) (h' : SumD u' d' fi') (hd : ∀ s, (d s).isSome = (d' s).isSome) (hs : ∀ s, szF d fi s = szF d' fi' s) : u = u' := by
  obtain ⟨_, l, hn, hm, hu⟩ := h
  obtain ⟨_, l', hn', hm', hu'⟩ := h'
  have hp : l.Perm l' := (List.perm_ext_iff_of_nodup hn hn').2 fun s => by rw [hm, hm', hd]
  rw [hu, hu', sumF_perm hp]
  exact sumF_congr fun s _ => hs s
/-- Crash, with what is left told. -/
theorem Sto.crash2 {w : World} {B F k : Nat} {A : Fs} (h : Sto w B F A k) (hk : k ≤ 1000) {ao fo : Option Addr} {zs : List Int} {fl : List Sv} (c fc : Nat) (hz : RowI w ao zs) (hzl : zs.length ≤ 10000) (hf : RowS w fo fl) (hfl : fl.length ≤ 1000) :
    Calls Try.prog 20 #[.pointer (some ⟨F, 0, none⟩), .slice ao zs.length c, .slice fo fl.length fc] w fun e w' => ∃ F2 A' j, e = .returned (.pointer (some ⟨F2, 0, none⟩)) ∧ Sto w' B F2 A' k ∧ Crashed (firstOf fl) (dirTo (fun i => decide ((i : Int) ∈ zs)) A.turns A.turns.length A.last) A (fun _ => false) A' j ∧ A'.last = A'.dir ∧ Below w.heap.size w w' := by
  have hB : B ≤ w.heap.size := by have := h.lt; omega
  obtain ⟨N, L, n, m, tv, h1, h2⟩ := h
  refine (crash_any (c := c) (fc := fc) h1 (by omega) hz hzl hf hfl).mono ?_
  intro e w' hc
  obtain ⟨B2, F2, A', j, he, hB2, hS, hC, hl, hb⟩ := hc.sto h2.2.1
  exact ⟨F2, A', j, he, hS.base (by omega), hC, hl, hb⟩
/-- What has all that another one has, and all of it lasts. -/
structure Whole (A A2 : Fs) : Prop where
  dirs : ∀ s, (A2.dir s).isSome = (A.dir s).isSome
  files : ∀ s X f, A.dir s = some X → A.file X = some f → ∃ X2 f2, A2.dir s = some X2 ∧ A2.file X2 = some f2 ∧ f2.xs = f.xs ∧ f2.ls = f.xs
  off : A2.off = false
  last : A2.last = A2.dir
  turns : A2.turns = []
  sum : SumD A2.used A2.dir A2.file
theorem Crashed.whole {gt : ByteArray → Option Sv} {gd : ByteArray → Option Nat} {A A2 : Fs} {j : Nat} (h : Crashed gt gd A (fun _ => false) A2 j) (hl : A2.last = A2.dir) (hg : gd = A.dir) (hf : ∀ s X, A.dir s = some X → (A.file X).isSome = true) (ha : ∀ s X f, A.dir s = some X → A.file X = some f → leaveL gt s f = f.xs) : Whole A A2 := by
  subst hg
  have hw := h.walked
  refine ⟨fun s => ?_, fun s X f hd hX => ?_, h.rest.2.2, hl, h.turns, h.sum⟩
  · have h1 := hw s
    cases hd : A.dir s with
    | none =>
      rw [hd] at h1
      have h2 : A2.dir s = none := h1
      rw [h2]
    | some X =>
      rw [hd] at h1
      dsimp only at h1
      rw [if_neg (by simp)] at h1
      obtain ⟨f, X', f', _, h3, _⟩ := h1
      rw [h3]
      rfl
  · have h1 := hw s
    rw [hd] at h1
    dsimp only at h1
    rw [if_neg (by simp)] at h1
    obtain ⟨f0, X', f', h2, h3, h4, h5, h6⟩ := h1
    rw [hX] at h2
    obtain rfl := Option.some.inj h2
    rw [ha s X f hd hX] at h5 h6
    exact ⟨X', f', h3, h4, h5, h6⟩
theorem Whole.used {A A2 : Fs} (h : Whole A A2) (hs : SumD A.used A.dir A.file) (hf : ∀ s X, A.dir s = some X → (A.file X).isSome = true) : A2.used = A.used :=
  h.sum.same hs h.dirs fun s => by
    cases hd : A.dir s with
    | none =>
      have h1 := h.dirs s
      rw [hd] at h1
      cases hd2 : A2.dir s with
      | none => rw [szF_none hd2, szF_none hd]
      | some Y => rw [hd2] at h1; cases h1
    | some X =>
      obtain ⟨f, hX⟩ := Option.isSome_iff_exists.1 (hf s X hd)
      obtain ⟨X2, f2, h2, h3, h4, _⟩ := h.files s X f hd hX
      rw [szF_some h2 h3, szF_some hd hX, h4]
theorem Whole.read {A A2 : Fs} (h : Whole A A2) (h0 : A.off = false) (hf : ∀ s X, A.dir s = some X → (A.file X).isSome = true) {s : ByteArray} (hs : (A.dir s).isSome = true) : rdL A2 s = rdL A s := by
  obtain ⟨X, hd⟩ := Option.isSome_iff_exists.1 hs
  obtain ⟨f, hX⟩ := Option.isSome_iff_exists.1 (hf s X hd)
  obtain ⟨X2, f2, h2, h3, h4, _⟩ := h.files s X f hd hX
  rw [rdL_some h.off h2 h3, rdL_some h0 hd hX, h4]
theorem Sto.dirs {w : World} {B F k : Nat} {A : Fs} (h : Sto w B F A k) : ∀ s X, A.dir s = some X → (A.file X).isSome = true := by
  obtain ⟨N, L, n, m, tv, h1, h2⟩ := h
  exact fun s X hX => (h1.dirs s X hX).2
/-- A slice of integers. -/
def IxRow (w : World) (B : Nat) (v : Value) (l : List Int) : Prop := w.ownsRow B 3 1 v l.length (l.map (Value.int .i64))
theorem IxRow.kept {w w' : World} {B : Nat} {v : Value} {l : List Int} (h : IxRow w B v l) (hc : ∀ (b : Nat) (cs : Array Value) (f : Nat × Nat), w.heap[b]? = some (.cells cs 3 f) → w'.heap[b]? = some (.cells cs 3 f)) : IxRow w' B v l := own_keptT h hc
theorem IxRow.below {w w' : World} {B : Nat} {v : Value} {l : List Int} (h : IxRow w B v l) (hb : Below w.heap.size w w') : IxRow w' B v l := h.kept fun b cs f hx => hb_below hx hb (hb_lt hx)
theorem IxRow.base {w : World} {B B' : Nat} {v : Value} {l : List Int} (h : IxRow w B v l) (hB : B' ≤ B) : IxRow w B' v l := own_base h hB
theorem IxRow.rowI {w : World} {B c : Nat} {ao : Option Addr} {l : List Int} (h : IxRow w B (.slice ao l.length c) l) (hw : ∀ z ∈ l, (Lit.int .i64 z).wf = true) : RowI w ao l := by
  intro i z hz
  have e1 : l.map (Value.int .i64) = l.flatMap fun z => [Value.int .i64 z] := List.map_eq_flatMap
  obtain ⟨g, h1, _, h2⟩ := row_at (cs := fun z : Int => [Value.int .i64 z]) (k := 1) (fun _ => rfl) (by rw [← e1]; exact h) hz
  exact ⟨hw z (List.mem_of_getElem? hz), g, 0, h1, by have := h2 0 _ rfl; simpa using this⟩
theorem info3 : (Try.prog.info? 3).map (fun i => (i.zero, i.size, i.bytes)) = some (some (.int .i64 0), 1, 8) := by kernel_rfl
theorem append_ix (W : World) (base : Nat) (v : Value) (l : List Int) (z : Int) (hown : IxRow W base v l) (g c : Nat) (hg : W.heap[g]? = some (.cells #[.int .i64 z] 3 (0, 0))) (hn : l.length ≤ 100000) (hbase : base ≤ W.heap.size) :
    ∃ v' W', (Builtin.append_ #[36, 36] 36 #[v, .slice (some ⟨g, 0, none⟩) 1 c]).run Try.prog W = .ok v' W' ∧ IxRow W' base v' (l ++ [z]) ∧ W.grownBy W' v.ownBlock := by
  obtain ⟨i0, hi, hz0, hz1, hz2⟩ := info_parts info3
  obtain ⟨v', w', h1, h2, h3, _⟩ := run_append_own_at (P := Try.prog) W base 36 36 3 i0 _ 1 8 Try.underlying36 hi hz0 hz1 hz2 rfl (by decide) v l.length (l.map (Value.int .i64)) hown ⟨g, 0, none⟩ 1 c [.int .i64 z] rfl
    (fun j u hu => by
      rw [show (⟨g, 0, none⟩ : Addr).add j = ⟨g, j, none⟩ by unfold Addr.add; by_cases h0 : j = 0 <;> simp [h0]]
      match j, hu with
      | 0, hu => cases hu; exact hb_at hg 0 rfl
      | j + 1, hu => simp at hu)
    (fun u hu => by simp at hu; rw [hu]; rfl) (by unfold maxLen; omega) (by omega) hbase
  refine ⟨v', w', h1, ?_, h3⟩
  unfold IxRow
  rw [List.map_append, List.length_append]
  exact h2
def svC (x : Sv) : List Value := [.string x.name, .slice x.ao x.zs.length x.c, .bool x.long]
/-- A slice of files that survive, made. -/
structure FlRow (w : World) (B : Nat) (v : Value) (l : List Sv) : Prop where
  row : w.ownsRow B 58 3 v l.length (l.flatMap svC)
  ints : ∀ x ∈ l, IxRow w B (.slice x.ao x.zs.length x.c) x.zs
theorem FlRow.below {w w' : World} {B : Nat} {v : Value} {l : List Sv} (h : FlRow w B v l) (hb : Below w.heap.size w w') : FlRow w' B v l :=
  ⟨own_keptT h.row fun b cs f hx => hb_below hx hb (hb_lt hx), fun x hx => (h.ints x hx).below hb⟩
theorem info58 : (Try.prog.info? 58).map (fun i => (i.zero, i.size, i.bytes)) = some (some (.agg #[.string ⟨#[]⟩, .slice none 0 0, .bool false]), 3, 48) := by kernel_rfl
theorem append_sv (W : World) (base : Nat) (v : Value) (l : List Sv) (x : Sv) (hown : FlRow W base v l) (hx : IxRow W base (.slice x.ao x.zs.length x.c) x.zs) (g c : Nat) (hg : W.heap[g]? = some (.cells #[.string x.name, .slice x.ao x.zs.length x.c, .bool x.long] 58 (0, 0))) (hn : l.length ≤ 100000) (hbase : base ≤ W.heap.size) :
    ∃ v' W', (Builtin.append_ #[37, 37] 37 #[v, .slice (some ⟨g, 0, none⟩) 1 c]).run Try.prog W = .ok v' W' ∧ FlRow W' base v' (l ++ [x]) ∧ W.grownBy W' v.ownBlock := by
  obtain ⟨i0, hi, hz0, hz1, hz2⟩ := info_parts info58
  obtain ⟨v', w', h1, h2, h3, _⟩ := run_append_own_at (P := Try.prog) W base 37 37 58 i0 _ 3 48 Try.underlying37 hi hz0 hz1 hz2 rfl (by decide) v l.length (l.flatMap svC) hown.row ⟨g, 0, none⟩ 1 c (svC x) rfl
    (fun j u hu => by
      rw [show (⟨g, 0, none⟩ : Addr).add j = ⟨g, j, none⟩ by unfold Addr.add; by_cases h0 : j = 0 <;> simp [h0]]
      match j, hu with
      | 0, hu => cases hu; exact hb_at hg 0 rfl
      | 1, hu => cases hu; exact hb_at hg 1 rfl
      | 2, hu => cases hu; exact hb_at hg 2 rfl
      | j + 3, hu => simp [svC] at hu)
    (fun u hu => by simp [svC] at hu; rcases hu with rfl | rfl | rfl <;> rfl) (by unfold maxLen; omega) (by omega) hbase
  have hk : ∀ (b : Nat) (cs : Array Value) (f : Nat × Nat), W.heap[b]? = some (.cells cs 3 f) → w'.heap[b]? = some (.cells cs 3 f) := fun b cs f hb => hb_grown hb h3 (own_ne hown.row hb (by intro cs2 f2 e; simp at e))
  refine ⟨v', w', h1, ⟨?_, fun y hy => ?_⟩, h3⟩
  · rw [List.flatMap_append, List.length_append, List.flatMap_cons, List.flatMap_nil, List.append_nil]
    exact h2
  · rcases List.mem_append.1 hy with h | h
    · exact (hown.ints y h).kept hk
    · obtain rfl := List.mem_singleton.1 h
      exact hx.kept hk
theorem FlRow.rowS {w : World} {B c : Nat} {fo : Option Addr} {l : List Sv} (h : FlRow w B (.slice fo l.length c) l) (hn : ∀ x ∈ l, x.name.size ≤ maxLen ∧ (∀ z ∈ x.zs, (Lit.int .i64 z).wf = true) ∧ x.zs.length ≤ manyZ) : RowS w fo l := by
  intro i x hx
  have hm := List.mem_of_getElem? hx
  obtain ⟨h1, h2, h3⟩ := hn x hm
  obtain ⟨g, e, _, hc⟩ := row_at (cs := svC) (k := 3) (fun _ => rfl) h.row hx
  exact ⟨h1, (h.ints x hm).rowI h2, h3, g, 0, e, by have := hc 0 _ rfl; simpa using this, by have := hc 1 _ rfl; simpa using this, by have := hc 2 _ rfl; simpa using this⟩
end Go.Proofs.Ytmfphnhdahaooaa
