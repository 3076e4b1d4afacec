/- What Match finds, of the program and of the document (mathematics). -/
import Derived.Test.YtknbhnicmgglbaaDoorZn
namespace Go.Proofs.YtknbhnicmgglbaaDoor
open Go.RowKit
set_option linter.unusedVariables false
theorem Sol.ext {P σ : ByteArray → Option Tm} (hE : Ext P σ) {x y : Tm} (h : Sol P x y) : Sol σ x y := by
  induction h with
  | var h => exact .var (hE _ _ h)
  | con h1 h2 _ ih => exact .con h1 h2 ih
/-- What Match does with the pairs that are to be gone through, where so much is put: it ends with so much, or not. -/
inductive Mu : List (Tm × Tm) → (ByteArray → Option Tm) → Option (ByteArray → Option Tm) → Prop
  | done {P : ByteArray → Option Tm} : Mu [] P (some P)
  | old {p n : ByteArray} {N : Int} {l : List Tm} {s : Tm} {rest : List (Tm × Tm)} {P : ByteArray → Option Tm} {r : Option (ByteArray → Option Tm)} : P n = some s → Mu rest P r → Mu ((.mk 1 p n N l, s) :: rest) P r
  | clash {p n : ByteArray} {N : Int} {l : List Tm} {s y : Tm} {rest : List (Tm × Tm)} {P : ByteArray → Option Tm} : P n = some y → y ≠ s → Mu ((.mk 1 p n N l, s) :: rest) P none
  | new {p n : ByteArray} {N : Int} {l : List Tm} {s : Tm} {rest : List (Tm × Tm)} {P : ByteArray → Option Tm} {r : Option (ByteArray → Option Tm)} : P n = none → Mu rest (upV P n s) r → Mu ((.mk 1 p n N l, s) :: rest) P r
  | differ {k k2 N N2 : Int} {p n p2 n2 : ByteArray} {l m : List Tm} {rest : List (Tm × Tm)} {P : ByteArray → Option Tm} : k ≠ 1 → ¬ (k = k2 ∧ p = p2 ∧ n = n2 ∧ N = N2 ∧ l.length = m.length) → Mu ((.mk k p n N l, .mk k2 p2 n2 N2 m) :: rest) P none
  | go {k N : Int} {p n : ByteArray} {l m : List Tm} {rest : List (Tm × Tm)} {P : ByteArray → Option Tm} {r : Option (ByteArray → Option Tm)} : k ≠ 1 → l.length = m.length → Mu ((l.zip m).reverse ++ rest) P r → Mu ((.mk k p n N l, .mk k p n N m) :: rest) P r
theorem Mu.mt {st : List (Tm × Tm)} {P : ByteArray → Option Tm} {r : Option (ByteArray → Option Tm)} (h : Mu st P r) : Mt st P r.isSome := by
  induction h with
  | done => exact .done
  | old h1 _ ih => exact .old h1 ih
  | clash h1 h2 => exact .clash h1 h2
  | new h1 _ ih => exact .new h1 ih
  | differ h1 h2 => exact .differ h1 h2
  | go h1 h2 _ ih => exact .go h1 h2 ih
theorem Mu.yes {st : List (Tm × Tm)} {P : ByteArray → Option Tm} {r : Option (ByteArray → Option Tm)} (h : Mu st P r) : ∀ {Q}, r = some Q → Ext P Q ∧ ∀ x ∈ st, Sol Q x.1 x.2 := by
  induction h with
  | done => intro Q e; cases e; exact ⟨Ext.refl _, fun x hx => by cases hx⟩
  | old h1 _ ih =>
    intro Q e
    obtain ⟨i1, i2⟩ := ih e
    refine ⟨i1, fun x hx => ?_⟩
    rcases List.mem_cons.1 hx with rfl | hx
    · exact .var (i1 _ _ h1)
    · exact i2 x hx
  | clash => intro Q e; cases e
  | new h1 _ ih =>
    intro Q e
    obtain ⟨i1, i2⟩ := ih e
    refine ⟨(Ext.up h1).trans i1, fun x hx => ?_⟩
    rcases List.mem_cons.1 hx with rfl | hx
    · exact .var (i1 _ _ (by unfold upV; rw [if_pos rfl]))
    · exact i2 x hx
  | differ => intro Q e; cases e
  | go h1 h2 _ ih =>
    intro Q e
    obtain ⟨i1, i2⟩ := ih e
    refine ⟨i1, fun x hx => ?_⟩
    rcases List.mem_cons.1 hx with rfl | hx
    · exact .con h1 h2 fun i x y hx hy => i2 (x, y) (List.mem_append_left _ (List.mem_reverse.2 (zip_mem hx hy)))
    · exact i2 x (List.mem_append_right _ hx)
/-- Each name among the variables is put. -/
theorem vars_put {Q : ByteArray → Option Tm} : ∀ {d : Nat} {g s : Tm} {v : ByteArray}, Ty d g → Sol Q g s → hasV d g v → (Q v).isSome := by
  intro d
  induction d with
  | zero => intro g s v h; cases h
  | succ d ih =>
    intro g s v hT hs hv
    obtain ⟨k, p, n, N, kids⟩ := g
    rcases hv with ⟨rfl, rfl⟩ | ⟨x, hx, hv⟩
    · cases hs with
      | var h => rw [h]; rfl
      | con h => exact absurd rfl h
    · by_cases hk : k = 1
      · rw [(hT.2.1 hk).1] at hx; cases hx
      · cases hs with
        | var => exact absurd rfl hk
        | con _ hl h =>
          obtain ⟨i, hi⟩ := List.getElem?_of_mem hx
          have hlt := (List.getElem?_eq_some_iff.1 hi).1
          exact ih (hT.kid hi) (h i x _ hi (List.getElem?_eq_getElem (by omega))) hv
abbrev NT := ByteArray × Tm
/-- The first one of a name. -/
def fnd : List NT → ByteArray → Option Tm
  | [], _ => none
  | (m, t) :: L, n => if m = n then some t else fnd L n
theorem fnd_app (L M : List NT) (n : ByteArray) : fnd (L ++ M) n = (fnd L n).orElse fun _ => fnd M n := by
  induction L with
  | nil => rfl
  | cons x L ih =>
    obtain ⟨m, t⟩ := x
    by_cases h : m = n
    · simp only [List.cons_append, fnd, if_pos h]; rfl
    · simp only [List.cons_append, fnd, if_neg h]; exact ih
theorem fnd_none {L : List NT} {n : ByteArray} : fnd L n = none ↔ n ∉ L.map Prod.fst := by
  induction L with
  | nil => simp [fnd]
  | cons x L ih =>
    obtain ⟨m, t⟩ := x
    unfold fnd
    by_cases h : m = n
    · rw [if_pos h]; simp [h]
    · rw [if_neg h, ih]
      simp only [List.map_cons, List.mem_cons, not_or]
      exact ⟨fun h2 => ⟨fun e => h e.symm, h2⟩, fun h2 => h2.2⟩
theorem fnd_at {L : List NT} (hn : (L.map Prod.fst).Nodup) {i : Nat} {n : ByteArray} {t : Tm} (h : L[i]? = some (n, t)) : fnd L n = some t := by
  induction L generalizing i with
  | nil => simp at h
  | cons x L ih =>
    obtain ⟨m, u⟩ := x
    simp only [List.map_cons, List.nodup_cons] at hn
    cases i with
    | zero => cases h; unfold fnd; rw [if_pos rfl]
    | succ i =>
      unfold fnd
      have hm : n ∈ L.map Prod.fst := List.mem_map.2 ⟨(n, t), List.mem_of_getElem? (i := i) h, rfl⟩
      rw [if_neg fun e => hn.1 (by rw [e]; exact hm)]
      exact ih hn.2 (i := i) h
/-- The document's Match: what is put, put behind some. -/
noncomputable def mrec : Nat → List NT → Tm → Tm → Option (List NT)
  | 0, _, _, _ => none
  | d + 1, L, .mk k p n N l, s => by
    classical exact if k = 1 then (match fnd L n with
      | some t => if t = s then some L else none
      | none => some (L ++ [(n, s)]))
    else match s with
      | .mk k2 p2 n2 N2 m => if k = k2 ∧ p = p2 ∧ n = n2 ∧ N = N2 ∧ l.length = m.length then (l.zip m).foldl (fun o x => o.bind fun L => mrec d L x.1 x.2) (some L) else none
theorem mrec_old {d : Nat} {L : List NT} {p n : ByteArray} {N : Int} {l : List Tm} {s t : Tm} (h : fnd L n = some t) : mrec (d + 1) L (.mk 1 p n N l) s = if same t s = true then some L else none := by
  classical
  unfold mrec
  rw [if_pos rfl, h]
  simp only [same_iff]
theorem mrec_new {d : Nat} {L : List NT} {p n : ByteArray} {N : Int} {l : List Tm} {s : Tm} (h : fnd L n = none) : mrec (d + 1) L (.mk 1 p n N l) s = some (L ++ [(n, s)]) := by
  unfold mrec
  rw [if_pos rfl, h]
theorem mrec_no {d : Nat} {L : List NT} {k k2 N N2 : Int} {p n p2 n2 : ByteArray} {l m : List Tm} (hk : k ≠ 1) (h : ¬ (k = k2 ∧ p = p2 ∧ n = n2 ∧ N = N2 ∧ l.length = m.length)) : mrec (d + 1) L (.mk k p n N l) (.mk k2 p2 n2 N2 m) = none := by
  unfold mrec
  rw [if_neg hk]
  exact if_neg h
theorem mrec_go {d : Nat} {L : List NT} {k N : Int} {p n : ByteArray} {l m : List Tm} (hk : k ≠ 1) (h : l.length = m.length) : mrec (d + 1) L (.mk k p n N l) (.mk k p n N m) = (l.zip m).foldl (fun o x => o.bind fun L => mrec d L x.1 x.2) (some L) := by
  conv => lhs; unfold mrec
  rw [if_neg hk]
  exact if_pos (⟨rfl, rfl, rfl, rfl, h⟩ : k = k ∧ p = p ∧ n = n ∧ N = N ∧ l.length = m.length)
/-- The first so many parts. -/
noncomputable def mrecTo (d j : Nat) (L : List NT) (l m : List Tm) : Option (List NT) := ((l.zip m).take j).foldl (fun o x => o.bind fun L => mrec d L x.1 x.2) (some L)
theorem mrecTo_next {d j : Nat} {L : List NT} {l m : List Tm} {x y : Tm} (hx : l[j]? = some x) (hy : m[j]? = some y) : mrecTo d (j + 1) L l m = (mrecTo d j L l m).bind fun M => mrec d M x y := by
  have hz : (l.zip m)[j]? = some (x, y) := by rw [List.getElem?_zip_eq_some]; exact ⟨hx, hy⟩
  unfold mrecTo
  obtain ⟨hlt, he⟩ := List.getElem?_eq_some_iff.1 hz
  rw [List.take_succ_eq_append_getElem hlt, List.foldl_append, he]
  rfl
theorem mrecTo_all {d : Nat} {L : List NT} {k N : Int} {p n : ByteArray} {l m : List Tm} (hk : k ≠ 1) (h : l.length = m.length) : mrecTo d l.length L l m = mrec (d + 1) L (.mk k p n N l) (.mk k p n N m) := by
  rw [mrec_go hk h]
  unfold mrecTo
  rw [List.take_of_length_le (by rw [List.length_zip]; omega)]
theorem fold_none {d : Nat} (l : List (Tm × Tm)) : l.foldl (fun (o : Option (List NT)) x => o.bind fun L => mrec d L x.1 x.2) none = none := by
  induction l with
  | nil => rfl
  | cons x l ih => exact ih
theorem mrecTo_none {d j : Nat} {L : List NT} {l m : List Tm} (h : mrecTo d j L l m = none) {i : Nat} (hi : j ≤ i) : mrecTo d i L l m = none := by
  unfold mrecTo at h ⊢
  have e : (l.zip m).take i = (l.zip m).take j ++ ((l.zip m).take i).drop j := by
    have := List.take_append_drop j ((l.zip m).take i)
    rw [List.take_take, Nat.min_eq_left hi] at this
    exact this.symm
  rw [e, List.foldl_append, h, fold_none]
theorem mrec_yes {d : Nat} : ∀ {L L' : List NT} {g s : Tm}, Ty d g → mrec d L g s = some L' → Ext (fnd L) (fnd L') ∧ Sol (fnd L') g s ∧ L'.map Prod.fst = varsT d (L.map Prod.fst) g := by
  induction d with
  | zero => intro L L' g s h; cases h
  | succ d ih =>
    intro L L' g s hT h
    obtain ⟨k, p, n, N, l⟩ := g
    by_cases hk : k = 1
    · subst hk
      obtain ⟨rfl, rfl⟩ := hT.2.1 rfl
      cases hf : fnd L n with
      | some t =>
        rw [mrec_old hf] at h
        split at h
        · rename_i e
          cases h
          rw [same_iff] at e
          subst e
          refine ⟨Ext.refl _, .var hf, ?_⟩
          show L.map Prod.fst = put1 (L.map Prod.fst) 1 n
          unfold put1
          rw [if_neg]
          rintro ⟨_, h2⟩
          have h3 : n ∈ L.map Prod.fst := by
            by_cases h4 : n ∈ L.map Prod.fst
            · exact h4
            · rw [← fnd_none] at h4; rw [hf] at h4; cases h4
          rw [inN_iff.2 h3] at h2
          cases h2
        · cases h
      | none =>
        rw [mrec_new hf] at h
        cases h
        have hup : fnd (L ++ [(n, s)]) n = some s := by rw [fnd_app, hf]; show fnd [(n, s)] n = some s; unfold fnd; rw [if_pos rfl]
        refine ⟨fun m t e => by rw [fnd_app, e]; rfl, .var hup, ?_⟩
        show (L ++ [(n, s)]).map Prod.fst = put1 (L.map Prod.fst) 1 n
        unfold put1
        have h3 : inN n (L.map Prod.fst) = false := by
          cases hx : inN n (L.map Prod.fst) with
          | false => rfl
          | true => exact absurd (inN_iff.1 hx) (fnd_none.1 hf)
        rw [if_pos ⟨rfl, h3⟩]
        simp
    · obtain ⟨k2, p2, n2, N2, m⟩ := s
      by_cases hc : k = k2 ∧ p = p2 ∧ n = n2 ∧ N = N2 ∧ l.length = m.length
      · obtain ⟨rfl, rfl, rfl, rfl, hl⟩ := hc
        rw [← mrecTo_all hk hl] at h
        have key : ∀ j, j ≤ l.length → ∀ L', mrecTo d j L l m = some L' → Ext (fnd L) (fnd L') ∧ (∀ (i : Nat) (x y : Tm), i < j → l[i]? = some x → m[i]? = some y → Sol (fnd L') x y) ∧ L'.map Prod.fst = (l.take j).foldl (varsT d) (L.map Prod.fst) := by
          intro j
          induction j with
          | zero =>
            intro _ L' e
            cases e
            exact ⟨Ext.refl _, fun i _ _ hi => absurd hi (by omega), by simp⟩
          | succ j ihj =>
            intro hj L' e
            have hx := List.getElem?_eq_getElem (l := l) (i := j) (by omega)
            have hy := List.getElem?_eq_getElem (l := m) (i := j) (by omega)
            rw [mrecTo_next hx hy] at e
            cases hM : mrecTo d j L l m with
            | none => rw [hM] at e; cases e
            | some M =>
              rw [hM] at e
              obtain ⟨h1, h2, h3⟩ := ihj (by omega) M hM
              obtain ⟨h4, h5, h6⟩ := ih (hT.kid hx) e
              refine ⟨h1.trans h4, fun i x y hi hx' hy' => ?_, ?_⟩
              · by_cases hij : i < j
                · exact Sol.ext h4 (h2 i x y hij hx' hy')
                · obtain rfl : i = j := by omega
                  rw [hx] at hx'; rw [hy] at hy'
                  cases hx'; cases hy'
                  exact h5
              · rw [h6, h3, List.take_succ_eq_append_getElem (by omega), List.foldl_append]
                rfl
        obtain ⟨h1, h2, h3⟩ := key _ (Nat.le_refl _) _ h
        refine ⟨h1, .con hk hl fun i x y hx hy => h2 i x y (List.getElem?_eq_some_iff.1 hx).1 hx hy, ?_⟩
        rw [h3, List.take_length]
        show _ = l.foldl (varsT d) (put1 (L.map Prod.fst) k n)
        unfold put1
        rw [if_neg fun e => hk e.1]
      · rw [mrec_no hk hc] at h; cases h
theorem mrec_least {σ : ByteArray → Option Tm} {d : Nat} : ∀ {L : List NT} {g s : Tm}, Ty d g → Ext (fnd L) σ → Sol σ g s → ∃ L', mrec d L g s = some L' ∧ Ext (fnd L') σ := by
  induction d with
  | zero => intro L g s h; cases h
  | succ d ih =>
    intro L g s hT hE hs
    cases hs with
    | @var p n N l s h =>
      cases hf : fnd L n with
      | some t =>
        have e : t = s := Option.some.inj ((hE _ _ hf).symm.trans h)
        exact ⟨L, by rw [mrec_old hf, if_pos (same_iff.2 e)], hE⟩
      | none =>
        refine ⟨_, mrec_new hf, fun m t e => ?_⟩
        rw [fnd_app] at e
        cases hm : fnd L m with
        | some u => rw [hm] at e; cases e; exact hE _ _ hm
        | none =>
          rw [hm] at e
          have e2 : fnd [(n, s)] m = some t := e
          unfold fnd at e2
          split at e2
          · rename_i hnm
            cases e2
            rw [← hnm]; exact h
          · cases e2
    | @con k N p n l m hk hl hS =>
      rw [← mrecTo_all hk hl]
      have key : ∀ j, j ≤ l.length → ∃ L', mrecTo d j L l m = some L' ∧ Ext (fnd L') σ := by
        intro j
        induction j with
        | zero => intro _; exact ⟨L, rfl, hE⟩
        | succ j ihj =>
          intro hj
          obtain ⟨M, h1, h2⟩ := ihj (by omega)
          have hx := List.getElem?_eq_getElem (l := l) (i := j) (by omega)
          have hy := List.getElem?_eq_getElem (l := m) (i := j) (by omega)
          obtain ⟨L', h3, h4⟩ := ih (hT.kid hx) h2 (hS j _ _ hx hy)
          exact ⟨L', by rw [mrecTo_next hx hy, h1]; exact h3, h4⟩
      exact key _ (Nat.le_refl _)
/-- What is put, in the order of the names. -/
def zTm : Tm := .mk 0 ⟨#[]⟩ ⟨#[]⟩ 0 []
def matL (σ : ByteArray → Option Tm) (ns : List ByteArray) : List NT := ns.map fun n => (n, (σ n).getD zTm)
theorem mrec_is {σ : ByteArray → Option Tm} {d : Nat} {g s : Tm} (hT : Ty d g) (hs : Sol σ g s) : mrec d [] g s = some (matL σ (varsT d [] g)) := by
  obtain ⟨L', h1, h2⟩ := mrec_least (L := []) hT (fun n t e => by cases e) hs
  obtain ⟨_, _, h3⟩ := mrec_yes hT h1
  rw [h1]
  congr 1
  have h3' : L'.map Prod.fst = varsT d [] g := h3
  have hn : (L'.map Prod.fst).Nodup := by rw [h3']; exact vars_nodup (by simp)
  rw [← h3']
  unfold matL
  rw [List.map_map]
  refine List.ext_getElem (by simp) fun i hi hj => ?_
  rw [List.getElem_map]
  have h5 := h2 _ _ (fnd_at hn (i := i) (n := (L'[i]).1) (t := (L'[i]).2) (List.getElem?_eq_getElem hi))
  show L'[i] = ((L'[i]).1, (σ (L'[i]).1).getD zTm)
  rw [h5]
  rfl
theorem mrec_none {d : Nat} {g s : Tm} (hT : Ty d g) : mrec d [] g s = none ↔ ¬ Ab g s := by
  constructor
  · rintro h ⟨σ, hσ⟩
    rw [mrec_is hT hσ] at h; cases h
  · intro h
    cases hx : mrec d [] g s with
    | none => rfl
    | some L' => exact absurd ⟨_, (mrec_yes hT hx).2.1⟩ h
/-- What is put makes it. -/
theorem sub_is {σ ρ : ByteArray → Option Tm} {ns : List ByteArray} (hρ : ∀ n ∈ ns, ρ n = σ n) : ∀ {d : Nat} {g s : Tm}, Ty d g → Sol σ g s → (∀ v, hasV d g v → v ∈ ns) → sub ρ d g = s := by
  intro d
  induction d with
  | zero => intro g s h; cases h
  | succ d ih =>
    intro g s hT hs hv
    cases hs with
    | @var p n N l s h => exact sub_yes (by rw [hρ n (hv n (.inl ⟨rfl, rfl⟩))]; exact h)
    | @con k N p n l m hk hl hS =>
      rw [sub_no (by rw [if_neg hk])]
      congr 1
      refine List.ext_getElem (by simpa using hl) fun i hi hj => ?_
      rw [List.length_map] at hi
      rw [List.getElem_map]
      exact ih (hT.kid (List.getElem?_eq_getElem hi)) (hS i _ _ (List.getElem?_eq_getElem hi) (List.getElem?_eq_getElem hj)) fun v h => hv v (.inr ⟨_, List.getElem_mem hi, h⟩)
theorem sub_mat {σ : ByteArray → Option Tm} {d : Nat} {g s : Tm} (hT : Ty d g) (hs : Sol σ g s) : sub (byOf (fg (varsT d [] g) (varsT d [] g).length) ((varsT d [] g).map fun n => (σ n).getD zTm)) d g = s := by
  have hn : (varsT d [] g).Nodup := vars_nodup (by simp)
  refine sub_is (ns := varsT d [] g) (fun n hm => ?_) hT hs fun v h => vars_mem h
  obtain ⟨i, hi⟩ := List.getElem?_of_mem hm
  have h1 : hasV d g n := by
    rcases (inN_varsT d [] g).1 (inN_iff.2 hm) with h | h
    · simp [inN] at h
    · exact h
  obtain ⟨t, ht⟩ := Option.isSome_iff_exists.1 (vars_put hT hs h1)
  rw [by_nodup hn hi (t := t) (by rw [List.getElem?_map, hi]; show some ((σ n).getD zTm) = some t; rw [ht]; rfl), ht]
end Go.Proofs.YtknbhnicmgglbaaDoor
