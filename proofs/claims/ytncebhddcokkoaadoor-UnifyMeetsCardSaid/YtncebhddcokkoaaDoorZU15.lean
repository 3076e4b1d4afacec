/- Texts in a row: Ka Kb Kc. -/
import Derived.Test.YtncebhddcokkoaaDoorZU1
import Derived.Test.YtncebhddcokkoaaDoorZU2
import Derived.Deep.DeepCutAuto
import Derived.Outline
import Derived.Maps.AppendAt
/- A store of types in memory; what is left as it was. -/
namespace Go.Proofs.YtncebhddcokkoaaDoor
open Go.RowKit
set_option linter.unusedSimpArgs false
set_option linter.unusedVariables false
/-- A type in memory. -/
structure Nd where
  i : Inf
  ks : Value
  lv : Int
  cl : Bool
  be : Int
  pl : Bool
  wk : Int
def Nd.cells (x : Nd) : List Value := [.int .i64 x.i.k, .string x.i.p, .string x.i.n, x.ks, .int .i64 x.lv, .bool x.cl, .int .i64 x.be, .bool x.pl, .int .i64 x.wk]
/-- Where a store lies, and what it says besides its types. -/
structure Cfg where
  b0 : Nat
  B : Nat
  T : TypeId
  rest : List Value
  bud : Int
  full : Bool
  wks : Int
/-- All stays but what is the store's own. -/
structure Kp (c : Cfg) (w w' : World) : Prop where
  below : Below c.b0 w w'
  size : w.heap.size ≤ w'.heap.size
  block : ∀ (k : Nat) (x : Obj), w.heap[k]? = some x → k ≠ c.B → (∀ cs fr, x ≠ .cells cs 90 fr) → w'.heap[k]? = some x
theorem Kp.refl (c : Cfg) (w : World) : Kp c w w := ⟨Below.refl _ _, Nat.le_refl _, fun _ _ h _ _ => h⟩
theorem Kp.trans {c : Cfg} {w w1 w2 : World} (h : Kp c w w1) (k : Kp c w1 w2) : Kp c w w2 :=
  ⟨h.below.trans k.below, Nat.le_trans h.size k.size, fun g x h1 h2 h3 => k.block g x (h.block g x h1 h2 h3) h2 h3⟩
theorem Kp.of_below {c : Cfg} {w w' : World} (hb : c.b0 ≤ w.heap.size) (h : Below w.heap.size w w') : Kp c w w' :=
  ⟨h.mono hb, h.size, fun g x h1 _ _ => by rw [h.block g (hb_lt h1)]; exact h1⟩
/-- Kids in memory. -/
def KI (B : Nat) (w : World) (v : Value) (l : List Nat) : Prop := ∃ q c, v = .slice q l.length c ∧ (l = [] ∨ ∃ g o cs fr, q = some ⟨g, o, none⟩ ∧ w.heap[g]? = some (.cells cs 3 fr) ∧ g ≠ B ∧ ∀ (j y : Nat), l[j]? = some y → cs[o + j]? = some (.int .i64 (y : Nat)))
theorem KI.move {c : Cfg} {w w' : World} {v : Value} {l : List Nat} (h : KI c.B w v l) (k : Kp c w w') : KI c.B w' v l := by
  obtain ⟨q, cc, h1, h2⟩ := h
  refine ⟨q, cc, h1, ?_⟩
  rcases h2 with h2 | ⟨g, o, cs, fr, e, hg, hB, hc⟩
  · exact .inl h2
  · exact .inr ⟨g, o, cs, fr, e, k.block g _ hg hB (fun cs' fr' e2 => by injection e2 with _ e3 _; exact absurd e3 (by decide)), hB, hc⟩
/-- A store's rows. -/
def Rows9 (b0 : Nat) (w : World) (v : Value) (L : List Nd) : Prop := (L = [] ∧ v = .slice none 0 0) ∨ ∃ g cap cur, v = .slice (some ⟨g, 0, none⟩) L.length cap ∧ b0 ≤ g ∧ w.heap[g]? = some (.cells cur 90 (0, 0)) ∧ L.length ≤ cap ∧ cap ≤ maxLen ∧ cur.size = cap * 9 ∧
  ∀ (i : Nat) (x : Nd) (j : Nat) (u : Value), L[i]? = some x → x.cells[j]? = some u → cur[i * 9 + j]? = some u
/-- A store. -/
structure StL (c : Cfg) (v : Value) (L : List Nd) (w : World) : Prop where
  hb : c.b0 ≤ c.B
  ne : c.T ≠ 90
  blk : w.heap[c.B]? = some (.cells (v :: .int .i64 c.bud :: .bool true :: .bool c.full :: .int .i64 c.wks :: c.rest).toArray c.T (0, 0))
  row : Rows9 c.b0 w v L
  kid : ∀ x ∈ L, KI c.B w x.ks x.i.kids
  few : L.length ≤ 100000
theorem StL.lt {c : Cfg} {v : Value} {L : List Nd} {w : World} (h : StL c v L w) : c.B < w.heap.size := hb_lt h.blk
/-- It stays where only new things come. -/
theorem StL.below {c : Cfg} {v : Value} {L : List Nd} {w w' : World} (h : StL c v L w) (k : Below w.heap.size w w') : StL c v L w' := by
  have hk : Kp c w w' := Kp.of_below (Nat.le_trans h.hb (Nat.le_of_lt h.lt)) k
  refine ⟨h.hb, h.ne, hb_below h.blk k h.lt, ?_, fun x hx => (h.kid x hx).move hk, h.few⟩
  rcases h.row with h1 | ⟨g, cap, cur, h1, h2, h3, h4⟩
  · exact .inl h1
  · exact .inr ⟨g, cap, cur, h1, h2, hb_below h3 k (hb_lt h3), h4⟩
/-- Its own cells, and those of a type. -/
theorem StL.at {c : Cfg} {v : Value} {L : List Nd} {w : World} (h : StL c v L w) {i : Nat} {x : Nd} (hx : L[i]? = some x) : ∃ g cap, v = .slice (some ⟨g, 0, none⟩) L.length cap ∧ g ≠ c.B ∧ c.b0 ≤ g ∧ L.length ≤ cap ∧ cap ≤ maxLen ∧
    w.cell? ⟨c.B, 0, none⟩ = some (.slice (some ⟨g, 0, none⟩) L.length cap) ∧ w.cell? ⟨c.B, 1, none⟩ = some (.int .i64 c.bud) ∧ w.cell? ⟨c.B, 2, none⟩ = some (.bool true) ∧ w.cell? ⟨c.B, 3, none⟩ = some (.bool c.full) ∧ w.cell? ⟨c.B, 4, none⟩ = some (.int .i64 c.wks) ∧
    w.cell? ⟨g, i * 9, none⟩ = some (.int .i64 x.i.k) ∧ w.cell? ⟨g, i * 9 + 1, none⟩ = some (.string x.i.p) ∧ w.cell? ⟨g, i * 9 + 2, none⟩ = some (.string x.i.n) ∧ w.cell? ⟨g, i * 9 + 3, none⟩ = some x.ks ∧ w.cell? ⟨g, i * 9 + 4, none⟩ = some (.int .i64 x.lv) ∧
    w.cell? ⟨g, i * 9 + 5, none⟩ = some (.bool x.cl) ∧ w.cell? ⟨g, i * 9 + 6, none⟩ = some (.int .i64 x.be) ∧ w.cell? ⟨g, i * 9 + 7, none⟩ = some (.bool x.pl) ∧ w.cell? ⟨g, i * 9 + 8, none⟩ = some (.int .i64 x.wk) ∧
    ∀ o, w.frozen? ⟨g, o, none⟩ = false := by
  rcases h.row with ⟨rfl, _⟩ | ⟨g, cap, cur, rfl, hg0, hg, hc1, hc2, hsz, hcs⟩
  · simp at hx
  · have hne : g ≠ c.B := by
      rintro rfl
      have := h.blk
      rw [hg] at this
      injection this with this
      injection this with _ e _
      exact h.ne e.symm
    have cc : ∀ j u, x.cells[j]? = some u → w.cell? ⟨g, i * 9 + j, none⟩ = some u := fun j u hu => by rw [hb_cell hg]; exact hcs i x j u hx hu
    exact ⟨g, cap, rfl, hne, hg0, hc1, hc2, hb_at h.blk 0 rfl, hb_at h.blk 1 rfl, hb_at h.blk 2 rfl, hb_at h.blk 3 rfl, hb_at h.blk 4 rfl,
      cc 0 _ rfl, cc 1 _ rfl, cc 2 _ rfl, cc 3 _ rfl, cc 4 _ rfl, cc 5 _ rfl, cc 6 _ rfl, cc 7 _ rfl, cc 8 _ rfl, fun o => hb_free hg o⟩
/-- A cell of a type is stored. -/
theorem StL.put {c : Cfg} {L : List Nd} {w : World} {g cap : Nat} (h : StL c (.slice (some ⟨g, 0, none⟩) L.length cap) L w) {i : Nat} {x y : Nd} (hx : L[i]? = some x) {f : Nat} {u : Value} (hf : f < 9) (hy : ∀ j, y.cells[j]? = if j = f then some u else x.cells[j]?) (hi : y.i = x.i) (hk : y.ks = x.ks) :
    StL c (.slice (some ⟨g, 0, none⟩) L.length cap) (L.set i y) (w.setCell ⟨g, i * 9 + f, none⟩ u) ∧ Kp c w (w.setCell ⟨g, i * 9 + f, none⟩ u) := by
  rcases h.row with ⟨rfl, _⟩ | ⟨g', cap', cur, e, hg0, hg, hc1, hc2, hsz, hcs⟩
  · simp at hx
  · injection e with e1 e2 e3
    injection e1 with e1
    injection e1 with e1
    subst e1 e3
    have hne : g ≠ c.B := by
      rintro rfl
      have := h.blk
      rw [hg] at this
      injection this with this
      injection this with _ e _
      exact h.ne e.symm
    have hil := (List.getElem?_eq_some_iff.1 hx).1
    have hK : Kp c w (w.setCell ⟨g, i * 9 + f, none⟩ u) := ⟨(Below.refl _ _).setCell hg0 _, by simp [World.setCell], fun k z h1 _ h3 => by
      refine hb_set_other h1 u ?_
      rintro rfl
      rw [hg] at h1
      cases h1
      exact h3 _ _ rfl⟩
    refine ⟨⟨h.hb, h.ne, hb_set_other h.blk u (fun e => hne e.symm), .inr ⟨g, cap, cur.setIfInBounds (i * 9 + f) u, by rw [List.length_set], hg0, hb_set_same hg _ _, by rw [List.length_set]; exact hc1, hc2, by rw [Array.size_setIfInBounds]; exact hsz, fun a z j v ha hv => ?_⟩, fun z hz => ?_, by rw [List.length_set]; exact h.few⟩, hK⟩
    · rw [List.getElem?_set] at ha
      rw [Array.getElem?_setIfInBounds]
      have hj : j < 9 := (List.getElem?_eq_some_iff.1 hv).1
      by_cases e : i = a
      · subst e
        rw [if_pos rfl, if_pos hil] at ha
        cases ha
        rw [hy] at hv
        by_cases e2 : j = f
        · subst e2
          rw [if_pos rfl] at hv
          cases hv
          rw [if_pos rfl, if_pos (by rw [hsz]; omega)]
        · rw [if_neg e2] at hv
          rw [if_neg (by omega)]
          exact hcs i x j v hx hv
      · rw [if_neg e] at ha
        rw [if_neg (by omega)]
        exact hcs a z j v ha hv
    · rcases List.mem_or_eq_of_mem_set hz with hz | rfl
      · exact (h.kid z hz).move hK
      · rw [hi, hk]; exact (h.kid x (List.mem_of_getElem? hx)).move hK
/-- What a store's memory says of its types. -/
structure Rep (rk : Nat → Nat) (L : List Nd) (A : Abs) : Prop where
  l : A.l = L.map (·.i)
  lv : ∀ i x, L[i]? = some x → A.lv i = x.lv
  be : ∀ i x, L[i]? = some x → (x.be < 0 ∧ A.r i = i) ∨ ∃ j : Nat, x.be = (j : Int) ∧ j < L.length ∧ A.r j = A.r i ∧ rk j < rk i
/-- All is the same but what types have become. -/
def SameBe (L M : List Nd) : Prop := M.length = L.length ∧ ∀ (i : Nat) (x y : Nd), L[i]? = some x → M[i]? = some y → ∃ b, y = { x with be := b }
theorem SameBe.refl (L : List Nd) : SameBe L L := ⟨rfl, fun i x y hx hy => by rw [hx] at hy; cases hy; exact ⟨x.be, rfl⟩⟩
theorem SameBe.trans {L M K : List Nd} (h : SameBe L M) (k : SameBe M K) : SameBe L K := by
  refine ⟨k.1.trans h.1, fun i x z hx hz => ?_⟩
  have hi := (List.getElem?_eq_some_iff.1 hx).1
  have hy : M[i]? = some (M[i]'(by have := h.1; omega)) := List.getElem?_eq_getElem _
  obtain ⟨b, e⟩ := h.2 i x _ hx hy
  obtain ⟨d, e2⟩ := k.2 i _ z hy hz
  exact ⟨d, by rw [e2, e]⟩
theorem SameBe.set {L : List Nd} {i : Nat} {x : Nd} (hx : L[i]? = some x) (b : Int) : SameBe L (L.set i { x with be := b }) := by
  refine ⟨List.length_set, fun j y z hy hz => ?_⟩
  rw [List.getElem?_set] at hz
  by_cases e : i = j
  · subst e
    rw [if_pos rfl, if_pos (List.getElem?_eq_some_iff.1 hx).1] at hz
    rw [hx] at hy
    cases hy; cases hz
    exact ⟨b, rfl⟩
  · rw [if_neg e, hy] at hz
    cases hz
    exact ⟨y.be, rfl⟩
/-- What a type has become is put further. -/
theorem Rep.halve {rk : Nat → Nat} {L : List Nd} {A : Abs} (h : Rep rk L A) {i j k : Nat} {x y : Nd} (hx : L[i]? = some x) (hj : x.be = (j : Int)) (hy : L[j]? = some y) (hk : y.be = (k : Int)) : Rep rk (L.set i { x with be := (k : Int) }) A := by
  have hr := h.be
  have hm : (L.set i { x with be := (k : Int) }).map (·.i) = L.map (·.i) := by
    apply List.ext_getElem?
    intro a
    rw [List.getElem?_map, List.getElem?_map, List.getElem?_set]
    split
    · rename_i e
      subst e
      split
      · rw [hx]; rfl
      · rw [List.getElem?_eq_none (by omega)]
    · rfl
  have key : ∀ a z, (L.set i { x with be := (k : Int) })[a]? = some z → (a = i ∧ z = { x with be := (k : Int) }) ∨ L[a]? = some z := by
    intro a z hz
    rw [List.getElem?_set] at hz
    split at hz
    · rename_i e
      subst e
      split at hz
      · cases hz; exact .inl ⟨rfl, rfl⟩
      · cases hz
    · exact .inr hz
  refine ⟨h.l.trans hm.symm, fun a z hz => ?_, fun a z hz => ?_⟩
  · rcases key a z hz with ⟨rfl, rfl⟩ | hz
    · exact h.lv a x hx
    · exact h.lv a z hz
  · rw [List.length_set]
    rcases key a z hz with ⟨rfl, rfl⟩ | hz
    · right
      rcases hr a x hx with ⟨h1, _⟩ | ⟨j', e1, e2, e3, e4⟩
      · omega
      · obtain rfl : j' = j := by omega
        rcases hr j' y hy with ⟨h1, _⟩ | ⟨k', f1, f2, f3, f4⟩
        · omega
        · obtain rfl : k' = k := by omega
          exact ⟨k', rfl, f2, by rw [f3, e3], by omega⟩
    · exact hr a z hz
end Go.Proofs.YtncebhddcokkoaaDoor
/- The type that one has become. -/
namespace Go.Proofs.YtncebhddcokkoaaDoor
open Go.RowKit
set_option linter.unusedSimpArgs false
set_option linter.unusedVariables false
set_option maxRecDepth 100000 in
theorem find_any (c : Cfg) (rk : Nat → Nat) (v : Value) (L : List Nd) (A : Abs) (w : World) (i : Nat) (hS : StL c v L w) (hR : Rep rk L A) (hi : i < L.length) :
    Calls Tryd.prog 55 #[.pointer (some ⟨c.B, 0, none⟩), .int .i64 i] w fun e w' => e = .returned (.int .i64 (A.r i : Nat)) ∧ ∃ L', StL c v L' w' ∧ Rep rk L' A ∧ SameBe L L' ∧ Kp c w w' ∧ w'.heap.size = w.heap.size := by
  go_enter Tryd.func55, Tryd.ntmps55
  go_wp2
  go_loopw [1] (fun t wr => ∃ (a : Nat) (M : List Nd), t = .int .i64 a ∧ a < L.length ∧ A.r a = A.r i ∧ StL c v M wr ∧ Rep rk M A ∧ SameBe L M ∧ Kp c w wr ∧ wr.heap.size = w.heap.size) (fun t _ => rk (intOf t).toNat)
  case atStart => exact ⟨i, L, rfl, hi, rfl, hS, hR, SameBe.refl L, Kp.refl c w, rfl⟩
  case round =>
    obtain ⟨a, M, rfl, ha, hra, hSM, hRM, hLM, hK, hz⟩ := hrel
    have hML : M.length = L.length := hLM.1
    have hx : M[a]? = some (M[a]'(by omega)) := List.getElem?_eq_getElem _
    generalize M[a]'(by omega) = x at hx
    obtain ⟨g, cap, rfl, hgB, hg0, hc1, hc2, s0, s1, s2, s3, s4, x0, x1, x2, x3, x4, x5, x6, x7, x8, hfz⟩ := hSM.at hx
    have hfz6 := hfz (a * 9 + 6)
    clear hfz
    have hlt1 : (a : Int) < (M.length : Int) := by omega
    have hmx : M.length ≤ maxLen := by omega
    rcases hRM.be a x hx with ⟨hb, hra2⟩ | ⟨j, hbj, hj, hrj, hrk⟩
    · have hS2 := Lib.hid hSM
      have hR2 := Lib.hid hRM
      have hL2 := Lib.hid hLM
      have hK2 := Lib.hid hK
      have hge : (decide (x.be ≥ 0)) = false := by simp; omega
      have e1 : a = A.r i := by rw [← hra, hra2]
      subst e1
      clear hSM hRM hLM hK s1 s2 s3 s4 x0 x1 x2 x3 x4 x5 x7 x8
      go_wp2
      go_ret
      exact ⟨rfl, M, hS2.out, hR2.out, hL2.out, hK2.out, hz⟩
    · have hy : M[j]? = some (M[j]'(by omega)) := List.getElem?_eq_getElem _
      generalize M[j]'(by omega) = y at hy
      obtain ⟨g', cap', e, _, _, _, _, _, _, _, _, _, y0, y1, y2, y3, y4, y5, y6, y7, y8, _⟩ := hSM.at hy
      injection e with e1 e2 e3
      injection e1 with e1
      injection e1 with e1
      subst e1 e3
      rw [hbj] at x6
      have hlt2 : (j : Int) < (M.length : Int) := by omega
      have hS2 := Lib.hid hSM
      have hR2 := Lib.hid hRM
      have hL2 := Lib.hid hLM
      have hK2 := Lib.hid hK
      have hx2 := Lib.hid hx
      have hy2 := Lib.hid hy
      have hrkj := Lib.hid hrk
      have hrj2 := Lib.hid (hrj.trans hra)
      clear hSM hRM hLM hK s1 s2 s3 s4 x0 x1 x2 x3 x4 x5 x7 x8 y0 y1 y2 y3 y4 y5 y7 y8 hx hy hrk hrj
      rcases hR2.out.be j y hy2.out with ⟨hb, _⟩ | ⟨k, hbk, hk, hrk2, _⟩
      · have hge : (decide (y.be ≥ 0)) = false := by simp; omega
        go_wp2
        refine ⟨⟨j, M, rfl, by omega, hrj2.out, hS2.out, hR2.out, hL2.out, hK2.out, hz⟩, ?_⟩
        simpa [intOf] using hrkj.out
      · rw [hbk] at y6
        go_wp2
        obtain ⟨p1, p2⟩ := StL.put (y := { x with be := (k : Int) }) hS2.out hx2.out (f := 6) (u := .int .i64 (k : Int)) (by omega) (fun q => by
          match q with
          | 0 => rfl
          | 1 => rfl
          | 2 => rfl
          | 3 => rfl
          | 4 => rfl
          | 5 => rfl
          | 6 => rfl
          | 7 => rfl
          | 8 => rfl
          | q + 9 => rfl) rfl rfl
        refine ⟨⟨j, _, rfl, by omega, hrj2.out, p1, hR2.out.halve hx2.out hbj hy2.out hbk, hL2.out.trans (SameBe.set hx2.out _), hK2.out.trans p2, by rw [← hz]; simp [World.setCell]⟩, ?_⟩
        simpa [intOf] using hrkj.out
end Go.Proofs.YtncebhddcokkoaaDoor
/- A store's rows as a row of one's own; a type more. -/
namespace Go.Proofs.YtncebhddcokkoaaDoor
open Go.RowKit
set_option linter.unusedSimpArgs false
set_option linter.unusedVariables false
theorem cflat_len {n : Nat} : ∀ (cl : List (List Value)), (∀ cs ∈ cl, cs.length = n) → cl.flatten.length = cl.length * n
  | [], _ => by simp
  | c :: cl, h => by
    have h1 := cflat_len cl (fun cs hc => h cs (List.mem_cons_of_mem _ hc))
    have h2 := h c (List.mem_cons_self ..)
    rw [List.flatten_cons, List.length_append, h1, h2, List.length_cons, Nat.add_mul]; omega
theorem cflat_at {n : Nat} : ∀ (cl : List (List Value)) (i j : Nat) (cs : List Value), (∀ cs ∈ cl, cs.length = n) → cl[i]? = some cs → j < n → cl.flatten[i * n + j]? = cs[j]?
  | [], i, j, cs, _, h, _ => by simp at h
  | c :: cl, 0, j, cs, hn, h, hj => by
    obtain rfl : c = cs := by simpa using h
    have := hn c (List.mem_cons_self ..)
    rw [List.flatten_cons, Nat.zero_mul, Nat.zero_add, List.getElem?_append_left (by omega)]
  | c :: cl, i + 1, j, cs, hn, h, hj => by
    have h2 := hn c (List.mem_cons_self ..)
    rw [List.flatten_cons, List.getElem?_append_right (by rw [h2, Nat.add_mul]; omega), h2]
    have e : (i + 1) * n + j - n = i * n + j := by rw [Nat.add_mul]; omega
    rw [e]
    exact cflat_at cl i j cs (fun cs hc => hn cs (List.mem_cons_of_mem _ hc)) (by simpa using h) hj
theorem cells_len (L : List Nd) : ∀ cs ∈ L.map Nd.cells, cs.length = 9 := by
  intro cs h
  obtain ⟨x, _, rfl⟩ := List.mem_map.1 h
  rfl
theorem Rows9.own {b0 : Nat} {w : World} {v : Value} {L : List Nd} (h : Rows9 b0 w v L) : w.ownsRow b0 90 9 v L.length (L.map Nd.cells).flatten := by
  have hl : (L.map Nd.cells).flatten.length = L.length * 9 := by rw [cflat_len _ (cells_len L), List.length_map]
  refine ⟨hl, ?_⟩
  rcases h with ⟨rfl, rfl⟩ | ⟨g, cap, cur, rfl, h1, h2, h3, h4, h5, h6⟩
  · exact .inl ⟨rfl, rfl⟩
  · refine .inr ⟨g, cap, cur, rfl, h1, h2, h3, h4, h5, ?_⟩
    apply List.ext_getElem?
    intro k
    rw [List.getElem?_take]
    by_cases hk : k < L.length * 9
    · rw [if_pos hk]
      have hd : k / 9 < L.length := by omega
      have hx : L[k / 9]? = some (L[k / 9]) := List.getElem?_eq_getElem hd
      have hc : (L.map Nd.cells)[k / 9]? = some ((L[k / 9]).cells) := by rw [List.getElem?_map, hx]; rfl
      have hf := cflat_at _ (k / 9) (k % 9) _ (cells_len L) hc (by omega)
      have e : k / 9 * 9 + k % 9 = k := by omega
      rw [e] at hf
      have hlen : (L[k / 9]).cells.length = 9 := rfl
      have hu : (L[k / 9]).cells[k % 9]? = some ((L[k / 9]).cells[k % 9]'(by rw [hlen]; omega)) := List.getElem?_eq_getElem _
      have := h6 _ _ _ _ hx hu
      rw [e] at this
      rw [hf, hu, Array.getElem?_toList]
      exact this
    · rw [if_neg hk, List.getElem?_eq_none (by omega)]
theorem rows9_of {b0 : Nat} {w : World} {v : Value} {L : List Nd} (h : w.ownsRow b0 90 9 v L.length (L.map Nd.cells).flatten) : Rows9 b0 w v L := by
  obtain ⟨hl, ⟨rfl, h0⟩ | ⟨g, cap, cur, rfl, h1, h2, h3, h4, h5, h6⟩⟩ := h
  · exact .inl ⟨List.eq_nil_of_length_eq_zero h0, rfl⟩
  · refine .inr ⟨g, cap, cur, rfl, h1, h2, h3, h4, h5, fun i x j u hx hu => ?_⟩
    have hj : j < 9 := (List.getElem?_eq_some_iff.1 hu).1
    have hi := (List.getElem?_eq_some_iff.1 hx).1
    have hc : (L.map Nd.cells)[i]? = some x.cells := by rw [List.getElem?_map, hx]; rfl
    have hf := cflat_at _ i j _ (cells_len L) hc hj
    rw [hu, ← h6, List.getElem?_take, if_pos (by omega), Array.getElem?_toList] at hf
    exact hf
theorem info90 : ∃ i z, Tryd.prog.info? 90 = some i ∧ i.zero = some z ∧ i.size = 9 ∧ i.bytes = 104 ∧ z.cells.size = 9 := by
  have h : (Tryd.prog.info? 90).map (fun i => (i.zero, i.size, i.bytes)) = some (some (.agg #[.int .i64 0, .string ⟨#[]⟩, .string ⟨#[]⟩, .slice none 0 0, .int .i64 0, .bool false, .int .i64 0, .bool false, .int .i64 0]), 9, 104) := by kernel_rfl
  obtain ⟨i, hi, e⟩ := Option.map_eq_some_iff.1 h
  injection e with e1 e2
  injection e2 with e2 e3
  exact ⟨i, _, hi, e1, e2, e3, rfl⟩
/-- A type more: the append, and what is there once its slice is stored. -/
theorem StL.app {c : Cfg} {v : Value} {L : List Nd} {w wq : World} (h : StL c v L w) (hq : Below w.heap.size w wq) {x : Nd} {g0 cc : Nat} (hx : ∀ j u, x.cells[j]? = some u → wq.cell? ⟨g0, j, none⟩ = some u) (hk1 : x.ks.oneCell' = true) (hkid : KI c.B wq x.ks x.i.kids) (hn : L.length < 100000) :
    ∃ v' w', (Builtin.append_ #[79, 79] 79 #[v, .slice (some ⟨g0, 0, none⟩) 1 cc]).run Tryd.prog wq = .ok v' w' ∧ Kp c wq w' ∧ w'.heap[c.B]? = wq.heap[c.B]? ∧
      (StL c v' (L ++ [x]) (w'.setCell ⟨c.B, 0, none⟩ v') ∧ Kp c w (w'.setCell ⟨c.B, 0, none⟩ v')) := by
  obtain ⟨i, z, hi, hz, hs, hby, hzc⟩ := info90
  have hS := h.below hq
  have hKq : Kp c w wq := Kp.of_below (Nat.le_trans h.hb (Nat.le_of_lt h.lt)) hq
  have hown := hS.row.own
  obtain ⟨v', w', h1, h2, h3, _, h5⟩ := run_append_own_at (P := Tryd.prog) (w := wq) c.b0 79 79 90 i z 9 104 (by kernel_rfl) hi hz hs hby hzc (by decide) v L.length (L.map Nd.cells).flatten hown ⟨g0, 0, none⟩ 1 cc x.cells rfl
    (fun j u hu => by rw [add_zero_none]; exact hx j u hu)
    (fun u hu => by
      simp only [Nd.cells, List.mem_cons, List.not_mem_nil, or_false] at hu
      rcases hu with rfl | rfl | rfl | rfl | rfl | rfl | rfl | rfl | rfl
      · rfl
      · rfl
      · rfl
      · exact hk1
      · rfl
      · rfl
      · rfl
      · rfl
      · rfl)
    (by unfold maxLen; omega) (by omega) (Nat.le_trans hS.hb (Nat.le_of_lt hS.lt))
  have hvB : ∀ g, v.ownBlock = some g → c.b0 ≤ g ∧ g ≠ c.B ∧ ∃ cs, wq.heap[g]? = some (.cells cs 90 (0, 0)) := by
    intro g hg
    rcases hS.row with ⟨_, rfl⟩ | ⟨g', cap, cur, rfl, r1, r2, _⟩
    · cases hg
    · injection hg with hg
      subst hg
      refine ⟨r1, fun e => ?_, cur, r2⟩
      have := hS.blk
      have r2' : wq.heap[g']? = some (.cells cur 90 (0, 0)) := r2
      have e' : g' = c.B := e
      rw [e', this] at r2'
      injection r2' with r2'
      injection r2' with _ e2 _
      exact hS.ne e2
  have hK : Kp c wq w' := by
    refine ⟨⟨h3.os, h3.tape, h3.output, h3.size, fun k hk => ?_⟩, h3.size, fun k y hy _ hn => ?_⟩
    · refine h3.block k (by have := hS.hb; have := hS.lt; omega) (fun e => ?_)
      have := (hvB k e.symm).1
      omega
    · rw [h3.block k (hb_lt hy) (fun e => ?_)]; exact hy
      obtain ⟨_, _, cs, hcs⟩ := hvB k e.symm
      rw [hcs] at hy
      cases hy
      exact hn _ _ rfl
  have hB : w'.heap[c.B]? = wq.heap[c.B]? := h3.block _ hS.lt (fun e => (hvB _ e.symm).2.1 rfl)
  have hKs : Kp c w' (w'.setCell ⟨c.B, 0, none⟩ v') := ⟨(Below.refl _ _).setCell hS.hb _, by simp [World.setCell], fun k y hy hk _ => hb_set_other hy v' hk⟩
  refine ⟨v', w', h1, hK, hB, ⟨hS.hb, hS.ne, ?_, ?_, fun y hy => ?_, by rw [List.length_append]; show L.length + 1 ≤ _; omega⟩, hKq.trans (hK.trans hKs)⟩
  · have hb := hS.blk
    rw [← hB] at hb
    exact hb_set_same hb 0 v'
  · have e : (L.map Nd.cells).flatten ++ x.cells = ((L ++ [x]).map Nd.cells).flatten := by simp
    rw [e] at h2
    have h6 : w'.ownsRow c.b0 90 9 v' (L ++ [x]).length ((L ++ [x]).map Nd.cells).flatten := by rw [List.length_append]; exact h2
    refine rows9_of (own_kept h6 fun g y hg hy => hb_set_other hy v' ?_)
    rcases h5 with h5 | h5
    · rw [hg] at h5; exact (hvB g h5.symm).2.1
    · rw [hg] at h5
      have := Option.some.inj h5
      have := hS.lt
      show g ≠ c.B
      omega
  · rcases List.mem_append.1 hy with hy | hy
    · exact ((hS.kid y hy).move hK).move hKs
    · cases List.mem_singleton.1 hy
      exact (hkid.move hK).move hKs
end Go.Proofs.YtncebhddcokkoaaDoor
