/- Texts in a row: Kb Kc Kd. -/
import Derived.Test.YtncebhddcokkoaaDoorZM16
import Derived.Maps.AppendAt
import Derived.Deep.RegionHeld3
import Derived.Deep.RegionLaw
/- The type that one has become. -/
namespace Go.Proofs.YtncebhddcokkoaaDoor
open Go.RowKit
set_option linter.unusedSimpArgs false
set_option linter.unusedVariables false
set_option maxRecDepth 100000 in
theorem find_any (c : Cfg) (rk : Nat → Nat) (v : Value) (L : List Nd) (A : Abs) (w : World) (i : Nat) (hS : StL c v L w) (hR : Rep rk L A) (hi : i < L.length) :
    Calls Tryd.prog 55 #[.pointer (some ⟨c.B, 0, none⟩), .int .i64 i] w fun e w' => e = .returned (.int .i64 (A.r i : Nat)) ∧ ∃ L', StL c v L' w' ∧ Rep rk L' A ∧ SameBe L L' ∧ Kp c w w' ∧ w'.heap.size = w.heap.size := by
  go_enter Tryd.func55, Tryd.ntmps55
  go_wp2
  go_loopw [1] (fun t wr => ∃ (a : Nat) (M : List Nd), t = .int .i64 a ∧ a < L.length ∧ A.r a = A.r i ∧ StL c v M wr ∧ Rep rk M A ∧ SameBe L M ∧ Kp c w wr ∧ wr.heap.size = w.heap.size) (fun t _ => rk (intOf t).toNat)
  case atStart => exact ⟨i, L, rfl, hi, rfl, hS, hR, SameBe.refl L, Kp.refl c w, rfl⟩
  case round =>
    obtain ⟨a, M, rfl, ha, hra, hSM, hRM, hLM, hK, hz⟩ := hrel
    have hML : M.length = L.length := hLM.1
    have hx : M[a]? = some (M[a]'(by omega)) := List.getElem?_eq_getElem _
    generalize M[a]'(by omega) = x at hx
    obtain ⟨g, cap, rfl, hgB, hg0, hc1, hc2, s0, s1, s2, s3, s4, x0, x1, x2, x3, x4, x5, x6, x7, x8, hfz⟩ := hSM.at hx
    have hfz6 := hfz (a * 9 + 6)
    clear hfz
    have hlt1 : (a : Int) < (M.length : Int) := by omega
    have hmx : M.length ≤ maxLen := by omega
    rcases hRM.be a x hx with ⟨hb, hra2⟩ | ⟨j, hbj, hj, hrj, hrk⟩
    · have hS2 := Lib.hid hSM
      have hR2 := Lib.hid hRM
      have hL2 := Lib.hid hLM
      have hK2 := Lib.hid hK
      have hge : (decide (x.be ≥ 0)) = false := by simp; omega
      have e1 : a = A.r i := by rw [← hra, hra2]
      subst e1
      clear hSM hRM hLM hK s1 s2 s3 s4 x0 x1 x2 x3 x4 x5 x7 x8
      go_wp2
      go_ret
      exact ⟨rfl, M, hS2.out, hR2.out, hL2.out, hK2.out, hz⟩
    · have hy : M[j]? = some (M[j]'(by omega)) := List.getElem?_eq_getElem _
      generalize M[j]'(by omega) = y at hy
      obtain ⟨g', cap', e, _, _, _, _, _, _, _, _, _, y0, y1, y2, y3, y4, y5, y6, y7, y8, _⟩ := hSM.at hy
      injection e with e1 e2 e3
      injection e1 with e1
      injection e1 with e1
      subst e1 e3
      rw [hbj] at x6
      have hlt2 : (j : Int) < (M.length : Int) := by omega
      have hS2 := Lib.hid hSM
      have hR2 := Lib.hid hRM
      have hL2 := Lib.hid hLM
      have hK2 := Lib.hid hK
      have hx2 := Lib.hid hx
      have hy2 := Lib.hid hy
      have hrkj := Lib.hid hrk
      have hrj2 := Lib.hid (hrj.trans hra)
      clear hSM hRM hLM hK s1 s2 s3 s4 x0 x1 x2 x3 x4 x5 x7 x8 y0 y1 y2 y3 y4 y5 y7 y8 hx hy hrk hrj
      rcases hR2.out.be j y hy2.out with ⟨hb, _⟩ | ⟨k, hbk, hk, hrk2, _⟩
      · have hge : (decide (y.be ≥ 0)) = false := by simp; omega
        go_wp2
        refine ⟨⟨j, M, rfl, by omega, hrj2.out, hS2.out, hR2.out, hL2.out, hK2.out, hz⟩, ?_⟩
        simpa [intOf] using hrkj.out
      · rw [hbk] at y6
        go_wp2
        obtain ⟨p1, p2⟩ := StL.put (y := { x with be := (k : Int) }) hS2.out hx2.out (f := 6) (u := .int .i64 (k : Int)) (by omega) (fun q => by
          match q with
          | 0 => rfl
          | 1 => rfl
          | 2 => rfl
          | 3 => rfl
          | 4 => rfl
          | 5 => rfl
          | 6 => rfl
          | 7 => rfl
          | 8 => rfl
          | q + 9 => rfl) rfl rfl
        refine ⟨⟨j, _, rfl, by omega, hrj2.out, p1, hR2.out.halve hx2.out hbj hy2.out hbk, hL2.out.trans (SameBe.set hx2.out _), hK2.out.trans p2, by rw [← hz]; simp [World.setCell]⟩, ?_⟩
        simpa [intOf] using hrkj.out
end Go.Proofs.YtncebhddcokkoaaDoor
/- A store's rows as a row of one's own; a type more. -/
namespace Go.Proofs.YtncebhddcokkoaaDoor
open Go.RowKit
set_option linter.unusedSimpArgs false
set_option linter.unusedVariables false
theorem cflat_len {n : Nat} : ∀ (cl : List (List Value)), (∀ cs ∈ cl, cs.length = n) → cl.flatten.length = cl.length * n
  | [], _ => by simp
  | c :: cl, h => by
    have h1 := cflat_len cl (fun cs hc => h cs (List.mem_cons_of_mem _ hc))
    have h2 := h c (List.mem_cons_self ..)
    rw [List.flatten_cons, List.length_append, h1, h2, List.length_cons, Nat.add_mul]; omega
theorem cflat_at {n : Nat} : ∀ (cl : List (List Value)) (i j : Nat) (cs : List Value), (∀ cs ∈ cl, cs.length = n) → cl[i]? = some cs → j < n → cl.flatten[i * n + j]? = cs[j]?
  | [], i, j, cs, _, h, _ => by simp at h
  | c :: cl, 0, j, cs, hn, h, hj => by
    obtain rfl : c = cs := by simpa using h
    have := hn c (List.mem_cons_self ..)
    rw [List.flatten_cons, Nat.zero_mul, Nat.zero_add, List.getElem?_append_left (by omega)]
  | c :: cl, i + 1, j, cs, hn, h, hj => by
    have h2 := hn c (List.mem_cons_self ..)
    rw [List.flatten_cons, List.getElem?_append_right (by rw [h2, Nat.add_mul]; omega), h2]
    have e : (i + 1) * n + j - n = i * n + j := by rw [Nat.add_mul]; omega
    rw [e]
    exact cflat_at cl i j cs (fun cs hc => hn cs (List.mem_cons_of_mem _ hc)) (by simpa using h) hj
theorem cells_len (L : List Nd) : ∀ cs ∈ L.map Nd.cells, cs.length = 9 := by
  intro cs h
  obtain ⟨x, _, rfl⟩ := List.mem_map.1 h
  rfl
theorem Rows9.own {b0 : Nat} {w : World} {v : Value} {L : List Nd} (h : Rows9 b0 w v L) : w.ownsRow b0 90 9 v L.length (L.map Nd.cells).flatten := by
  have hl : (L.map Nd.cells).flatten.length = L.length * 9 := by rw [cflat_len _ (cells_len L), List.length_map]
  refine ⟨hl, ?_⟩
  rcases h with ⟨rfl, rfl⟩ | ⟨g, cap, cur, rfl, h1, h2, h3, h4, h5, h6⟩
  · exact .inl ⟨rfl, rfl⟩
  · refine .inr ⟨g, cap, cur, rfl, h1, h2, h3, h4, h5, ?_⟩
    apply List.ext_getElem?
    intro k
    rw [List.getElem?_take]
    by_cases hk : k < L.length * 9
    · rw [if_pos hk]
      have hd : k / 9 < L.length := by omega
      have hx : L[k / 9]? = some (L[k / 9]) := List.getElem?_eq_getElem hd
      have hc : (L.map Nd.cells)[k / 9]? = some ((L[k / 9]).cells) := by rw [List.getElem?_map, hx]; rfl
      have hf := cflat_at _ (k / 9) (k % 9) _ (cells_len L) hc (by omega)
      have e : k / 9 * 9 + k % 9 = k := by omega
      rw [e] at hf
      have hlen : (L[k / 9]).cells.length = 9 := rfl
      have hu : (L[k / 9]).cells[k % 9]? = some ((L[k / 9]).cells[k % 9]'(by rw [hlen]; omega)) := List.getElem?_eq_getElem _
      have := h6 _ _ _ _ hx hu
      rw [e] at this
      rw [hf, hu, Array.getElem?_toList]
      exact this
    · rw [if_neg hk, List.getElem?_eq_none (by omega)]
theorem rows9_of {b0 : Nat} {w : World} {v : Value} {L : List Nd} (h : w.ownsRow b0 90 9 v L.length (L.map Nd.cells).flatten) : Rows9 b0 w v L := by
  obtain ⟨hl, ⟨rfl, h0⟩ | ⟨g, cap, cur, rfl, h1, h2, h3, h4, h5, h6⟩⟩ := h
  · exact .inl ⟨List.eq_nil_of_length_eq_zero h0, rfl⟩
  · refine .inr ⟨g, cap, cur, rfl, h1, h2, h3, h4, h5, fun i x j u hx hu => ?_⟩
    have hj : j < 9 := (List.getElem?_eq_some_iff.1 hu).1
    have hi := (List.getElem?_eq_some_iff.1 hx).1
    have hc : (L.map Nd.cells)[i]? = some x.cells := by rw [List.getElem?_map, hx]; rfl
    have hf := cflat_at _ i j _ (cells_len L) hc hj
    rw [hu, ← h6, List.getElem?_take, if_pos (by omega), Array.getElem?_toList] at hf
    exact hf
theorem info90 : ∃ i z, Tryd.prog.info? 90 = some i ∧ i.zero = some z ∧ i.size = 9 ∧ i.bytes = 104 ∧ z.cells.size = 9 := by
  have h : (Tryd.prog.info? 90).map (fun i => (i.zero, i.size, i.bytes)) = some (some (.agg #[.int .i64 0, .string ⟨#[]⟩, .string ⟨#[]⟩, .slice none 0 0, .int .i64 0, .bool false, .int .i64 0, .bool false, .int .i64 0]), 9, 104) := by kernel_rfl
  obtain ⟨i, hi, e⟩ := Option.map_eq_some_iff.1 h
  injection e with e1 e2
  injection e2 with e2 e3
  exact ⟨i, _, hi, e1, e2, e3, rfl⟩
/-- A type more: the append, and what is there once its slice is stored. -/
theorem StL.app {c : Cfg} {v : Value} {L : List Nd} {w wq : World} (h : StL c v L w) (hq : Below w.heap.size w wq) {x : Nd} {g0 cc : Nat} (hx : ∀ j u, x.cells[j]? = some u → wq.cell? ⟨g0, j, none⟩ = some u) (hk1 : x.ks.oneCell' = true) (hkid : KI c.B wq x.ks x.i.kids) (hn : L.length < 100000) :
    ∃ v' w', (Builtin.append_ #[79, 79] 79 #[v, .slice (some ⟨g0, 0, none⟩) 1 cc]).run Tryd.prog wq = .ok v' w' ∧ Kp c wq w' ∧ w'.heap[c.B]? = wq.heap[c.B]? ∧
      (StL c v' (L ++ [x]) (w'.setCell ⟨c.B, 0, none⟩ v') ∧ Kp c w (w'.setCell ⟨c.B, 0, none⟩ v')) := by
  obtain ⟨i, z, hi, hz, hs, hby, hzc⟩ := info90
  have hS := h.below hq
  have hKq : Kp c w wq := Kp.of_below (Nat.le_trans h.hb (Nat.le_of_lt h.lt)) hq
  have hown := hS.row.own
  obtain ⟨v', w', h1, h2, h3, _, h5⟩ := run_append_own_at (P := Tryd.prog) (w := wq) c.b0 79 79 90 i z 9 104 (by kernel_rfl) hi hz hs hby hzc (by decide) v L.length (L.map Nd.cells).flatten hown ⟨g0, 0, none⟩ 1 cc x.cells rfl
    (fun j u hu => by rw [add_zero_none]; exact hx j u hu)
    (fun u hu => by
      simp only [Nd.cells, List.mem_cons, List.not_mem_nil, or_false] at hu
      rcases hu with rfl | rfl | rfl | rfl | rfl | rfl | rfl | rfl | rfl
      · rfl
      · rfl
      · rfl
      · exact hk1
      · rfl
      · rfl
      · rfl
      · rfl
      · rfl)
    (by unfold maxLen; omega) (by omega) (Nat.le_trans hS.hb (Nat.le_of_lt hS.lt))
  have hvB : ∀ g, v.ownBlock = some g → c.b0 ≤ g ∧ g ≠ c.B ∧ ∃ cs, wq.heap[g]? = some (.cells cs 90 (0, 0)) := by
    intro g hg
    rcases hS.row with ⟨_, rfl⟩ | ⟨g', cap, cur, rfl, r1, r2, _⟩
    · cases hg
    · injection hg with hg
      subst hg
      refine ⟨r1, fun e => ?_, cur, r2⟩
      have := hS.blk
      have r2' : wq.heap[g']? = some (.cells cur 90 (0, 0)) := r2
      have e' : g' = c.B := e
      rw [e', this] at r2'
      injection r2' with r2'
      injection r2' with _ e2 _
      exact hS.ne e2
  have hK : Kp c wq w' := by
    refine ⟨⟨h3.os, h3.tape, h3.output, h3.size, fun k hk => ?_⟩, h3.size, fun k y hy _ hn => ?_⟩
    · refine h3.block k (by have := hS.hb; have := hS.lt; omega) (fun e => ?_)
      have := (hvB k e.symm).1
      omega
    · rw [h3.block k (hb_lt hy) (fun e => ?_)]; exact hy
      obtain ⟨_, _, cs, hcs⟩ := hvB k e.symm
      rw [hcs] at hy
      cases hy
      exact hn _ _ rfl
  have hB : w'.heap[c.B]? = wq.heap[c.B]? := h3.block _ hS.lt (fun e => (hvB _ e.symm).2.1 rfl)
  have hKs : Kp c w' (w'.setCell ⟨c.B, 0, none⟩ v') := ⟨(Below.refl _ _).setCell hS.hb _, by simp [World.setCell], fun k y hy hk _ => hb_set_other hy v' hk⟩
  refine ⟨v', w', h1, hK, hB, ⟨hS.hb, hS.ne, ?_, ?_, fun y hy => ?_, by rw [List.length_append]; show L.length + 1 ≤ _; omega⟩, hKq.trans (hK.trans hKs)⟩
  · have hb := hS.blk
    rw [← hB] at hb
    exact hb_set_same hb 0 v'
  · have e : (L.map Nd.cells).flatten ++ x.cells = ((L ++ [x]).map Nd.cells).flatten := by simp
    rw [e] at h2
    have h6 : w'.ownsRow c.b0 90 9 v' (L ++ [x]).length ((L ++ [x]).map Nd.cells).flatten := by rw [List.length_append]; exact h2
    refine rows9_of (own_kept h6 fun g y hg hy => hb_set_other hy v' ?_)
    rcases h5 with h5 | h5
    · rw [hg] at h5; exact (hvB g h5.symm).2.1
    · rw [hg] at h5
      have := Option.some.inj h5
      have := hS.lt
      show g ≠ c.B
      omega
  · rcases List.mem_append.1 hy with hy | hy
    · exact ((hS.kid y hy).move hK).move hKs
    · cases List.mem_singleton.1 hy
      exact (hkid.move hK).move hKs
end Go.Proofs.YtncebhddcokkoaaDoor
/- Is a store full? A type more. -/
namespace Go.Proofs.YtncebhddcokkoaaDoor
open Go.RowKit
set_option linter.unusedSimpArgs false
set_option linter.unusedVariables false
/-- A store's own cells. -/
theorem StL.own5 {c : Cfg} {v : Value} {L : List Nd} {w : World} (h : StL c v L w) : w.cell? ⟨c.B, 0, none⟩ = some v ∧ w.cell? ⟨c.B, 1, none⟩ = some (.int .i64 c.bud) ∧ w.cell? ⟨c.B, 2, none⟩ = some (.bool true) ∧ w.cell? ⟨c.B, 3, none⟩ = some (.bool c.full) ∧ w.cell? ⟨c.B, 4, none⟩ = some (.int .i64 c.wks) ∧ (∃ q cap, v = .slice q L.length cap) ∧ (∀ o, w.frozen? ⟨c.B, o, none⟩ = false) := by
  refine ⟨hb_at h.blk 0 rfl, hb_at h.blk 1 rfl, hb_at h.blk 2 rfl, hb_at h.blk 3 rfl, hb_at h.blk 4 rfl, ?_, fun o => hb_free h.blk o⟩
  rcases h.row with ⟨rfl, rfl⟩ | ⟨g, cap, _, rfl, _⟩
  · exact ⟨none, 0, rfl⟩
  · exact ⟨_, _, rfl⟩
theorem full_any (c : Cfg) (v : Value) (L : List Nd) (w : World) (h : StL c v L w) : Calls Tryd.prog 28 #[.pointer (some ⟨c.B, 0, none⟩)] w fun e w' => e = .returned (.bool c.full) ∧ w' = w := by
  obtain ⟨s0, s1, s2, s3, s4, _, _⟩ := h.own5
  clear h
  go_enter Tryd.func28, Tryd.ntmps28
  go_wp2
  go_ret
  exact ⟨rfl, rfl⟩
set_option maxRecDepth 100000 in
theorem step_node {ops : Array Oper} {o : Oper} {a : Act} {w : World} {K : Act → World → Prop} {Q : Exit → Act → World → Prop} {E : Prop} (hgd : o.guard = none) (s x : Operand)
    (ho : o.op = .call { callee := .builtin .append, args := #[s, x], argTypes := #[79, 79] }) (hty : o.type = 79) {c : Cfg} {v : Value} {L : List Nd} {w0 : World} {y : Nd} {g0 cc : Nat} (h : StL c v L w0) (hs : a.eval s = v) (hx : a.eval x = .slice (some ⟨g0, 0, none⟩) 1 cc)
    (hq : Below w0.heap.size w0 w) (hy : ∀ j u, y.cells[j]? = some u → w.cell? ⟨g0, j, none⟩ = some u) (hk1 : y.ks.oneCell' = true) (hkid : KI c.B w y.ks y.i.kids) (hn : L.length < 100000)
    (hK : ∀ q cap w', w'.cell? ⟨c.B, 0, none⟩ = some v → w'.frozen? ⟨c.B, 0, none⟩ = false → RowKit.Hid (StL c (.slice q (L.length + 1) cap) (L ++ [y]) (w'.setCell ⟨c.B, 0, none⟩ (.slice q (L.length + 1) cap)) ∧ Kp c w0 (w'.setCell ⟨c.B, 0, none⟩ (.slice q (L.length + 1) cap))) → K (a.put o.dst (.slice q (L.length + 1) cap)) w') :
    if Region.wanted o (yielded ops a.tmps) = true then Oper.wp Tryd.prog o a w K Q else E := by
  have hw : Region.wanted o (yielded ops a.tmps) = true := by simp [Region.wanted, hgd]
  rw [if_pos hw]
  obtain ⟨v', w', hrun, _, hB, h1, h2⟩ := h.app hq hy hk1 hkid hn
  obtain ⟨_, _, _, _, _, ⟨q, cap, e⟩, _⟩ := h1.own5
  rw [List.length_append] at e
  subst e
  unfold Oper.wp execOp
  simp only [ho, hty, resolve, invoke, builtin, Sem.run_bind, Sem.run_pure, Result.andThen_ok, List.map_toArray, List.map_cons, List.map_nil, hs, hx]
  rw [hrun]
  have hSq := h.below hq
  have hb := hSq.blk
  rw [← hB] at hb
  exact hK q cap w' (hb_at hb 0 rfl) (hb_free hb 0) (Lib.hid ⟨h1, h2⟩)
set_option maxRecDepth 100000 in
set_option maxHeartbeats 1000000 in
theorem add_any (c : Cfg) (v : Value) (L : List Nd) (w : World) (k lv wk b : Int) (p n : ByteArray) (kids : List Nat) (kq : Option Addr) (kl kc : Nat) (cl pl : Bool) (h : StL c v L w) (hk : KI c.B w (.slice kq kl kc) kids) (hn : L.length < 100000) (hf : c.full = false) (hb : (L.length : Int) < c.bud) :
    Calls Tryd.prog 48 #[.pointer (some ⟨c.B, 0, none⟩), .agg #[.int .i64 k, .string p, .string n, .slice kq kl kc, .int .i64 lv, .bool cl, .int .i64 b, .bool pl, .int .i64 wk]] w fun e w' => e = .returned (.int .i64 (L.length : Nat)) ∧ ∃ v', StL c v' (L ++ [⟨⟨k, p, n, kids⟩, .slice kq kl kc, lv, cl, -1, pl, wk⟩]) w' ∧ Kp c w w' := by
  have hblw : c.b0 ≤ w.heap.size := Nat.le_trans h.hb (Nat.le_of_lt h.lt)
  have HK := Lib.hid hk
  have hS1 := h.below (below_alloc w (.cells #[.int .i64 k, .string p, .string n, .slice kq kl kc, .int .i64 lv, .bool cl, .int .i64 b, .bool pl, .int .i64 wk] 90))
  have hXb := hb_new w (.cells #[.int .i64 k, .string p, .string n, .slice kq kl kc, .int .i64 lv, .bool cl, .int .i64 b, .bool pl, .int .i64 wk] 90)
  have HW := Lib.hid (below_alloc w (.cells #[.int .i64 k, .string p, .string n, .slice kq kl kc, .int .i64 lv, .bool cl, .int .i64 b, .bool pl, .int .i64 wk] 90))
  have HS0 := Lib.hid h
  have hBl := h.lt
  clear h hk
  go_enter Tryd.func48, Tryd.ntmps48
  go_upto_region 1 with (fail)
  generalize (w.alloc (.cells #[.int .i64 k, .string p, .string n, .slice kq kl kc, .int .i64 lv, .bool cl, .int .i64 b, .bool pl, .int .i64 wk] 90)) = W1 at *
  have HS := Lib.hid hS1
  obtain ⟨s0, s1, s2, s3, s4, ⟨q, cap, rfl⟩, hfz⟩ := hS1.own5
  have HX := Lib.hid hXb
  have x6 := hb_at hXb 6 rfl
  have xf := hb_free hXb 6
  have hfz0 := hfz 0
  clear hS1 hXb s2 s3 s4 hfz
  have hge : ¬ (L.length : Int) ≥ c.bud := by omega
  go_wp2_with (go_at_call 28; (refine (full_any c _ L _ HS.out).mono ?_); rintro e w' ⟨rfl, rfl⟩; rw [hf])
  all_goals
    go_region
    go_wp2
    have hB2 : Below w.heap.size w (w'.setCell ⟨w.heap.size, 6, none⟩ (.int .i64 (-1))) := HW.out.setCell (Nat.le_refl _) _
    have hX2 := hb_set_same HX.out 6 (.int .i64 (-1))
    generalize w'.setCell ⟨w.heap.size, 6, none⟩ (.int .i64 (-1)) = W2 at *
    have HB2 := Lib.hid hB2
    have hBl2 : c.B < W2.heap.size := by have := hB2.size; omega
    have HX2 := Lib.hid hX2
    have hS2 := HS0.out.below hB2
    obtain ⟨t0, _, _, _, _, _, hfz2⟩ := hS2.own5
    have t1 := hfz2 0
    have y0 := hb_at hX2 0 rfl
    have y1 := hb_at hX2 1 rfl
    have y2 := hb_at hX2 2 rfl
    have y3 := hb_at hX2 3 rfl
    have y4 := hb_at hX2 4 rfl
    have y5 := hb_at hX2 5 rfl
    have y6 := hb_at hX2 6 rfl
    have y7 := hb_at hX2 7 rfl
    have y8 := hb_at hX2 8 rfl
    clear hX2 hB2 hfz2 hS2 s0 s1 x6 xf hfz0
    go_region_law (refine step_node (c := c) (L := L) (w0 := w) (y := ⟨⟨k, p, n, kids⟩, .slice kq kl kc, lv, cl, -1, pl, wk⟩) rfl (.tmp 25) (.tmp 27) rfl rfl HS0.out rfl rfl (by first | exact (HB2.out.alloc HB2.out.size _).drew.drew | exact (HB2.out.alloc HB2.out.size _).drew) (fun j u hu => (hb_cell (hb_new W2 _) j).trans (by simpa [Nd.cells] using hu)) rfl (HK.out.move (Kp.of_below hblw (by first | exact (HB2.out.alloc HB2.out.size _).drew.drew | exact (HB2.out.alloc HB2.out.size _).drew))) hn ?_; intro q5 cap5 w5 z0 z1 HZ)
    all_goals
      obtain ⟨hZ1, hZ2⟩ := HZ.out
      obtain ⟨r0, _, _, _, _, _, _⟩ := hZ1.own5
      have HZ1 := Lib.hid hZ1
      have HZ2 := Lib.hid hZ2
      clear hZ1 hZ2 HZ
      generalize w5.setCell ⟨c.B, 0, none⟩ (.slice q5 (L.length + 1) cap5) = W6 at *
      go_wp2
      go_ret
      exact ⟨by simp, _, HZ1.out, HZ2.out⟩
end Go.Proofs.YtncebhddcokkoaaDoor
