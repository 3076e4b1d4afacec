/- The texts Gn, Go, one behind the other. -/
import Derived.Test.YtmfphnhdahaooaaM12
import Derived.LoopTactic
import Derived.Deep.LoopGhost
set_option linter.unusedSimpArgs false
set_option linter.unusedVariables false
/- SyncDir of any store. -/
namespace Go.Proofs.Ytmfphnhdahaooaa
open Go.RowKit Go.Maps

def SyncR (A A' : Fs) : Prop := A' = { A with last := A.turns.foldl appT A.last, turns := [] }

/-- The directory that lasts is another one; nothing else is turned. -/
theorem Raw.relast {w w' : World} {B F N L n m m' : Nat} {A : Fs} {tv : Value} {g : ByteArray → Option Nat} (h : Raw w B F A N L n m tv) (hg : w.grownBy w' (some L)) (hm : NameMap w' L m' g) (hd : ∀ s X, g s = some X → NameP s ∧ (A.file X).isSome = true) : Raw w' B F { A with last := g } N L n m' tv := by
  obtain ⟨es, ck, hN⟩ := h.names.heap
  obtain ⟨ls, cl, hL⟩ := h.lasts.heap
  have other : ∀ (b : Nat) (x : Obj), b ≠ L → w.heap[b]? = some x → w'.heap[b]? = some x := fun b x hb hx => hb_grown hx hg (fun e => hb (Option.some.inj e))
  have cellsL : ∀ (b : Nat) (cs : Array Value) (t : TypeId) (f : Nat × Nat), w.heap[b]? = some (.cells cs t f) → w'.heap[b]? = some (.cells cs t f) := fun b cs t f hx => other b _ (Ne.symm (map_ne hL hx)) hx
  have hrow : ∀ {v : Value} {e : TypeId} {size k : Nat} {xs : List Value}, w.ownsRow B e size v k xs → w'.ownsRow B e size v k xs := by
    intro v e size k xs ho
    refine own_kept ho fun g x hg2 hx => ?_
    rcases ho.2 with ⟨e, _⟩ | ⟨g2, cap, cur, e, _, hb, _⟩
    · rw [e] at hg2; cases hg2
    · rw [e] at hg2
      obtain rfl : g2 = g := by simpa [Value.ownBlock] using hg2
      rw [hb] at hx
      obtain rfl := Option.some.inj hx
      exact cellsL _ _ _ _ hb
  exact ⟨cellsL _ _ _ _ h.store, h.names.kept (fun x hx => other N x h.two hx), hm, h.two, hrow h.row, h.new, fun X f hX => ⟨(h.files X f hX).new, cellsL _ _ _ _ (h.files X f hX).block, hrow (h.files X f hX).now, hrow (h.files X f hX).lasts, (h.files X f hX).small, (h.files X f hX).bytes⟩, h.lone, h.dirs, hd, h.turn, h.caps, h.nums⟩
theorem frm_map {w w' : World} {B L : Nat} {es : Array MapEntry} {ck : Nat} (hg : w.grownBy w' (some L)) (hL : w.heap[L]? = some (.map es ck)) (hB : B ≤ L) : Frm B w w' :=
  ⟨hg.size, ⟨hg.os, hg.tape, hg.output⟩, fun b hb => hg.block b (by have := hb_lt hL; omega) (by simp; omega), fun b cs t f _ _ _ _ hx => hb_grown hx hg (fun e => map_ne hL hx (Option.some.inj e).symm)⟩

theorem turn_cell {w : World} {B c i : Nat} {ao : Option Addr} {ts : List Tn} {t : Tn} (h : w.ownsRow B 87 4 (.slice ao ts.length c) ts.length (ts.flatMap Tn.cells)) (ht : ts[i]? = some t) :
    ∃ g, ao = some ⟨g, 0, none⟩ ∧ w.cell? ⟨g, i * 4, none⟩ = some (.int .i64 (t.kind : Nat)) ∧ w.cell? ⟨g, i * 4 + 1, none⟩ = some (.string t.name) ∧ w.cell? ⟨g, i * 4 + 2, none⟩ = some (.string t.dst) ∧ w.cell? ⟨g, i * 4 + 3, none⟩ = some (ptrV t.ptr) := by
  have hl : i < ts.length := (List.getElem?_eq_some_iff.1 ht).1
  rcases h.2 with ⟨e, h0⟩ | ⟨g, cap, cur, e, _, hb, _, _, _, hx⟩
  · omega
  · simp at e
    have hat : ∀ (l : List Tn) (i : Nat) (t : Tn), l[i]? = some t → ∀ j, j < 4 → (l.flatMap Tn.cells)[4 * i + j]? = t.cells[j]? := by
      intro l
      induction l with
      | nil => intro i t h; simp at h
      | cons a l ih =>
        intro i t hh j hj
        cases i with
        | zero =>
          obtain rfl : a = t := by simpa using hh
          rw [List.flatMap_cons, List.getElem?_append_left (by simp [Tn.cells]; omega)]
          simp
        | succ i =>
          rw [List.flatMap_cons, List.getElem?_append_right (by simp [Tn.cells]; omega), ← ih i t (by simpa using hh) j hj]
          congr 1
          simp [Tn.cells]
          omega
    have hc : ∀ j v, j < 4 → t.cells[j]? = some v → w.cell? ⟨g, i * 4 + j, none⟩ = some v := by
      intro j v hj hv
      rw [Nat.mul_comm i 4]
      rw [hb_cell hb]
      have h1 := hat ts i t ht j hj
      rw [hv, ← hx, List.getElem?_take] at h1
      split at h1
      · simpa using h1
      · cases h1
    exact ⟨g, e.1, hc 0 _ (by omega) rfl, hc 1 _ (by omega) rfl, hc 2 _ (by omega) rfl, hc 3 _ (by omega) rfl⟩

theorem turns_names {g : ByteArray → Option Nat} {P : Nat → Prop} : ∀ (ts : List Tn), (∀ s X, g s = some X → NameP s ∧ P X) → (∀ t ∈ ts, t.ok ∧ (t.kind ≠ 1 → t.kind ≠ 2 → NameP t.name) ∧ (t.kind = 2 → NameP t.dst) ∧ ∀ X, t.ptr = some X → P X) →
    ∀ s X, ts.foldl appT g s = some X → NameP s ∧ P X := by
  intro ts
  induction ts generalizing g with
  | nil => intro h _ s X hs; exact h s X hs
  | cons t ts ih =>
    intro h ht s X hs
    obtain ⟨h1, h2, h3, h4⟩ := ht t (List.mem_cons_self ..)
    exact ih (appT_names h h2 h3 h4 h1) (fun t' ht' => ht t' (List.mem_cons_of_mem _ ht')) s X hs
end Go.Proofs.Ytmfphnhdahaooaa
/- SyncDir of any store: the walk. -/
namespace Go.Proofs.Ytmfphnhdahaooaa
open Go.RowKit Go.Maps

theorem Raw.cleared {w : World} {B F N L n m : Nat} {A : Fs} {tv : Value} (h : Raw w B F A N L n m tv) : Raw (w.setCell ⟨F, 4, none⟩ (.slice none 0 0)) B F { A with turns := [] } N L n m (.slice none 0 0) := by
  have hg := grown_at w F 4 (.slice none 0 0)
  have other : ∀ (b : Nat) (x : Obj), b ≠ F → w.heap[b]? = some x → (w.setCell ⟨F, 4, none⟩ (.slice none 0 0)).heap[b]? = some x := fun b x hb hx => hb_grown hx hg (fun e => hb (Option.some.inj e))
  obtain ⟨es, ck, hN⟩ := h.names.heap
  obtain ⟨ls, cl, hL⟩ := h.lasts.heap
  refine ⟨hb_set_same h.store 4 _, h.names.kept (fun x hx => other _ x (map_ne hN h.store) hx), h.lasts.kept (fun x hx => other _ x (map_ne hL h.store) hx), h.two, World.ownsRow_nil _ _ _ _, h.new, ?_, h.lone, h.dirs, h.lastd, (fun t ht => by cases ht), h.caps, h.nums⟩
  intro X f hX
  have hk := h.files X f hX
  exact hk.kept (fun x hx => other X x (tag_ne hk.block h.store (by decide)) hx) (fun g x hg2 hx => other g x (fun e => own_ne hk.now h.store (by simp) (by rw [hg2, e])) hx) (fun g x hg2 hx => other g x (fun e => own_ne hk.lasts h.store (by simp) (by rw [hg2, e])) hx)

set_option maxRecDepth 100000 in
set_option maxHeartbeats 4000000 in
theorem sync_any {w : World} {B F N L n m k : Nat} {A : Fs} {tv : Value} (h : Raw w B F A N L n m tv) (hb : n ≤ k ∧ m + A.turns.length ≤ k ∧ -(4096 * (k : Int)) ≤ A.used ∧ A.used ≤ 4096 * (k : Int)) (hk1 : k ≤ 1000) :
    Calls Try.prog 18 #[.pointer (some ⟨F, 0, none⟩)] w (OpP B F A k SyncR w) := by
  have H := Lib.hid h
  have HB := Lib.hid hb
  clear h hb
  by_cases hc : A.code = 0
  · have HC := Lib.hid hc
    clear hc
    go_enter Try.func18, Try.ntmps18
    go_upto_region 6 with (first
      | ((go_at_call 46; with_reducible refine (H.out.made).mono ?_); rintro e w' ⟨rfl, rfl⟩)
      | ((go_at_call 44; with_reducible refine (step0 H.out HC.out).mono ?_); rintro e w1 ⟨rfl, hR, hg⟩)
      | go_in)
    obtain ⟨ao, c, htv, hlc⟩ := own_sl hR.row
    subst htv
    have c4 := hR.cells.c4
    have HG := Lib.hid hg
    have HR := Lib.hid hR
    obtain ⟨T, hT⟩ : ∃ T, T = A.step.turns.length := ⟨_, rfl⟩
    rw [← hT] at c4 hlc
    have HT := Lib.hid hT
    have hTk : T ≤ 1000 := by have := HB.out.2.1; have e : A.step.turns.length = A.turns.length := rfl; omega
    clear hg hR hT
    go_upto_region 7 with fail
    go_loopw [19] (fun i wr => ∃ q : Nat, q ≤ T ∧ i = .int .i64 q ∧ Hid (Raw wr B F { A.step with last := (A.turns.take q).foldl appT A.last } N L n (m + q) (.slice ao A.step.turns.length c)) ∧ Hid (Frm B w1 wr)) (fun i _ => T - (intOf i).toNat)
    case atStart => exact ⟨0, Nat.zero_le _, rfl, HR, Lib.hid (Frm.refl _ _)⟩
    case round =>
      obtain ⟨q, hq, rfl, HRr, HFr⟩ := hrel
      by_cases hlt : q < T
      · have hqt : q < A.turns.length := by have e : A.step.turns.length = A.turns.length := rfl; have := HT.out; omega
        obtain ⟨t, ht⟩ : ∃ t, A.turns[q]? = some t := ⟨_, List.getElem?_eq_getElem hqt⟩
        obtain ⟨g, rfl, d0, d1, d2, d3⟩ := turn_cell HRr.out.row ht
        obtain ⟨po, hpo⟩ : ∃ po : Option Addr, ptrV t.ptr = .pointer po := ⟨_, rfl⟩
        rw [hpo] at d3
        have htn : t.ok := (HRr.out.turn t (List.mem_of_getElem? ht)).1
        have hch : ∀ (W : World), NameMap W L (m + q) ((A.turns.take q).foldl appT A.last) → Calls Try.prog 47 #[.agg #[.int .i64 (t.kind : Nat), .string t.name, .string t.dst, .pointer po], .map (some L)] W fun e w' => e = .returned (.tuple #[]) ∧ NameMap w' L (m + q + 1) (appT ((A.turns.take q).foldl appT A.last) t) ∧ W.grownBy w' (some L) := by
          intro W hW
          rw [← hpo]
          exact change_any t L (m + q) _ W htn hW (by have := HB.out.2.1; unfold maxLen; omega)
        have hnl : ∀ o, NameMap (wr.alloc o).drew L (m + q) ((A.turns.take q).foldl appT A.last) := fun o => HRr.out.lasts.kept fun x hx => hb_alloc hx o
        have c3 : ∀ o, (wr.alloc o).cell? ⟨F, 3, none⟩ = some (.map (some L)) := fun o => hb_at (hb_alloc HRr.out.store o) 3 rfl
        have HCH := Lib.hid hch
        have HNL := Lib.hid hnl
        have HTT := Lib.hid ht
        have HPO := Lib.hid hpo
        clear hch hnl ht hpo htn
        go_upto_region 9 with fail
        go_region_with (go_at_call 47; refine (HCH.out _ (HNL.out _)).mono ?_; rintro e w2 ⟨rfl, hN2, hg2⟩)
        all_goals
          have HN2 := Lib.hid hN2
          have HG2 := Lib.hid (box_grown (grown_undrew hg2))
          clear hN2 hg2 c3 c4 d0 d1 d2 d3
          go_wp2
          refine ⟨⟨q + 1, by omega, by go_num, Lib.hid ?_, Lib.hid ?_⟩, by simp [intOf]; omega⟩
          · have e : (A.turns.take (q + 1)).foldl appT A.last = appT ((A.turns.take q).foldl appT A.last) t := by
              rw [List.take_add_one, HTT.out, List.foldl_append]
              rfl
            rw [e]
            exact HRr.out.relast HG2.out HN2.out (appT_names HRr.out.lastd (HRr.out.turn t (List.mem_of_getElem? HTT.out)).2.1 (HRr.out.turn t (List.mem_of_getElem? HTT.out)).2.2.1 (HRr.out.turn t (List.mem_of_getElem? HTT.out)).2.2.2 (HRr.out.turn t (List.mem_of_getElem? HTT.out)).1)
          · obtain ⟨ls, cl, hL⟩ := HRr.out.lasts.heap
            exact HFr.out.trans (frm_map HG2.out hL HRr.out.new.2.2)
      · obtain rfl : q = T := by omega
        have hR2 := HRr.out
        have f4 := hb_free hR2.store 4
        have c4b := hR2.cells.c4
        clear hR2 c4
        go_wp2
        go_ret
        have hR3 := HRr.out
        have e : A.turns.take q = A.turns := List.take_of_length_le (by have := HT.out; have e : A.step.turns.length = A.turns.length := rfl; omega)
        rw [e] at hR3
        refine ⟨0, { A.step with last := A.turns.foldl appT A.last, turns := [] }, rfl, sto_mk hR3.cleared ⟨by have := HB.out.1; omega, ?_, ?_, ?_⟩, .inr ⟨rfl, HC.out, rfl⟩, ((raw_frm H.out HG.out).trans HFr.out).trans (Frm.ofGrown (grown_at wr F 4 _) hR3.store (.inl rfl) hR3.new.1)⟩
        · have h1 := HB.out.2.1
          have h2 := HT.out
          have e : A.step.turns.length = A.turns.length := rfl
          show m + q + 0 ≤ k + 1
          omega
        · show -(4096 * ((k + 1 : Nat) : Int)) ≤ A.used
          have := HB.out.2.2.1
          omega
        · show A.used ≤ 4096 * ((k + 1 : Nat) : Int)
          have := HB.out.2.2.2
          omega
  · obtain ⟨cd, hcd⟩ : ∃ cd, A.code = cd := ⟨_, rfl⟩
    rw [hcd] at hc
    have n1 : (cd == 0) = false := by simpa using hc
    have n2 : (cd != 0) = true := by simpa using hc
    have HC := Lib.hid hc
    have HCD := Lib.hid hcd
    clear hc hcd
    go_enter Try.func18, Try.ntmps18
    go_wp2_with (first
      | ((go_at_call 46; with_reducible refine (H.out.made).mono ?_); rintro e w' ⟨rfl, rfl⟩)
      | ((go_at_call 44; with_reducible refine (step1 H.out cd HCD.out).mono ?_); rintro e w1 ⟨rfl, hR, hg⟩)
      | go_in)
    go_ret
    exact op_stepped H.out hR hg HB.out HC.out rfl
end Go.Proofs.Ytmfphnhdahaooaa
