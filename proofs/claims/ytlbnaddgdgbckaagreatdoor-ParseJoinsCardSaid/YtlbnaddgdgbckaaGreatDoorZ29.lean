/- Texts in a row: Pv Pw. -/
import Derived.Test.YtlbnaddgdgbckaaGreatDoorZ13
import Derived.Test.YtlbnaddgdgbckaaGreatDoorZ28
import Derived.Test.YtlbnaddgdgbckaaGreatDoorZ12
/- A source read whole: one term. -/
namespace Go.Proofs.YtlbnaddgdgbckaaGreatDoor
open Go.RowKit
set_option linter.unusedSimpArgs false
set_option linter.unusedVariables false
/-- What a source comes to, read whole by a reader. -/
def readM {α : Type} (s : ByteArray) (one : Nat → Ts → Res α) : Except (Nat × Nat) α := if (lexM s).2.2 ≠ 0 then .error ((lexM s).2.1, (lexM s).2.2) else wholeP s.size (one s.size) (lexM s).1
def RdR (s : ByteArray) (one : Nat → Ts → Res Tm) (w : World) (e : Ending) (w' : World) : Prop := Below w.heap.size w w' ∧ match readM s one with
  | .ok t => ∃ v, e = .returned (.tuple #[v, .int .i64 0, .int .i64 0]) ∧ TmV w w' v t
  | .error y => e = .returned (.tuple #[zT, .int .i64 (y.1 : Nat), .int .i64 (y.2 : Nat)])
def OneC (one : Nat → Ts → Res Tm) (n : Nat) : Prop := ∀ r E ts W, Rd r E W ts → Calls Tryz.prog n #[rp r] W (Got r E TmV W (one E ts))
set_option maxRecDepth 100000 in
theorem res_read {tmps : Array Value} {p q e : Nat} (h4 : tmps[4]?.getD undef = bp p) (h5 : tmps[5]?.getD undef = bp q) (h6 : tmps[6]?.getD undef = bp e) {W : World} {c0 c1 c2 c3 c4 d f : Value} {t1 t2 t3 : TypeId} {f1 f2 f3 : Nat × Nat}
    (hp : W.heap[p]? = some (.cells #[c0, c1, c2, c3, c4] t1 f1)) (hq : W.heap[q]? = some (.cells #[d] t2 f2)) (he : W.heap[e]? = some (.cells #[f] t3 f3)) : (results Tryz.f21 tmps).run Tryz.prog W = .ok (.tuple #[.agg #[c0, c1, c2, c3, c4], d, f]) W := by
  have x0 := hb_at hp 0 rfl
  have x1 := hb_at hp 1 rfl
  have x2 := hb_at hp 2 rfl
  have x3 := hb_at hp 3 rfl
  have x4 := hb_at hp 4 rfl
  have y0 := hb_at hq 0 rfl
  have z0 := hb_at he 0 rfl
  simp [results, Tryz.results21, h4, h5, h6, go_sem, Tryz.isAgg39, Tryz.isAgg3, Tryz.isAgg30, x0, x1, x2, x3, x4, y0, z0]
/-- The end of a source that is none. -/
theorem fin_err {tmps : Array Value} {p q e : Nat} (h4 : tmps[4]?.getD undef = bp p) (h5 : tmps[5]?.getD undef = bp q) (h6 : tmps[6]?.getD undef = bp e) {s : ByteArray} {one : Nat → Ts → Res Tm} {w W : World} {x y : Nat} {t1 t2 t3 : TypeId} {f1 f2 f3 : Nat × Nat}
    (hp : W.heap[p]? = some (.cells #[.int .i64 0, .string ⟨#[]⟩, .string ⟨#[]⟩, .int .i64 0, .slice none 0 0] t1 f1)) (hq : W.heap[q]? = some (.cells #[.int .i64 (x : Nat)] t2 f2)) (he : W.heap[e]? = some (.cells #[.int .i64 (y : Nat)] t3 f3)) (hB : Below w.heap.size w W) (hM : readM s one = .error (x, y)) :
    Leaves Tryz.prog Tryz.f21 tmps (RdR s one w) [] .returning W := by
  refine ⟨_, res_read h4 h5 h6 hp hq he, hB, ?_⟩
  rw [hM]
/-- The end of a source that is a term. -/
theorem fin_term {tmps : Array Value} {p q e : Nat} (h4 : tmps[4]?.getD undef = bp p) (h5 : tmps[5]?.getD undef = bp q) (h6 : tmps[6]?.getD undef = bp e) {s : ByteArray} {one : Nat → Ts → Res Tm} {w W : World} {t : Tm} {k N : Int} {pk n : ByteArray} {sl : Value} {t1 t2 t3 : TypeId} {f1 f2 f3 : Nat × Nat}
    (hp : W.heap[p]? = some (.cells #[.int .i64 k, .string pk, .string n, .int .i64 N, sl] t1 f1)) (hq : W.heap[q]? = some (.cells #[.int .i64 0] t2 f2)) (he : W.heap[e]? = some (.cells #[.int .i64 0] t3 f3)) (hB : Below w.heap.size w W) (hM : readM s one = .ok t) (hV : TmV w W (tv k pk n N sl) t) :
    Leaves Tryz.prog Tryz.f21 tmps (RdR s one w) [] .returning W := by
  refine ⟨_, res_read h4 h5 h6 hp hq he, hB, ?_⟩
  rw [hM]
  exact ⟨_, rfl, hV⟩
/-- No token lies in a box of noughts. -/
theorem tok_zero {W : World} {p o : Nat} {x : Tk × Nat} {t : TypeId} {f : Nat × Nat} (hp : W.heap[p]? = some (.cells #[.int .i64 0, .string ⟨#[]⟩, .string ⟨#[]⟩, .int .i64 0, .slice none 0 0] t f)) (h : TokAt W p o x) : False := by
  obtain ⟨h0, h1, h2, h3⟩ := h
  rw [hb_cell hp] at h0 h1 h2 h3
  match o, h0, h1, h2, h3 with
  | 0, h0, h1, h2, h3 => simp at h2
  | 1, h0, h1, h2, h3 => simp at h0
  | 2, h0, h1, h2, h3 => simp at h0
  | 3, h0, h1, h2, h3 => simp at h1
  | 4, h0, h1, h2, h3 => simp at h0
  | o + 5, h0, h1, h2, h3 => simp at h0
theorem Rd.set5p {r E p : Nat} {W : World} {ts : Ts} (h : Rd r E W ts) {t : TypeId} {f : Nat × Nat} (hp : W.heap[p]? = some (.cells #[.int .i64 0, .string ⟨#[]⟩, .string ⟨#[]⟩, .int .i64 0, .slice none 0 0] t f)) (hpr : p ≠ r) (k : Int) (pk n : ByteArray) (N : Int) (s : Value) : Rd r E (Proofs.YtlbnaddgdgbckaaGreatDoor.set5w W p k pk n N s) ts := by
  obtain ⟨hE, v, h1, q, c, h2, h3, h4, h5, h6⟩ := h
  refine ⟨hE, v, by rw [Proofs.YtlbnaddgdgbckaaGreatDoor.set5w_other (fun e => hpr e.symm)]; exact h1, q, c, h2, h3, h4, h5, fun i x hx => ?_⟩
  obtain ⟨hz, b, o, e, hb, ht⟩ := h6 i x hx
  exact ⟨hz, b, o, e, hb, ht.move (Proofs.YtlbnaddgdgbckaaGreatDoor.set5w_other fun e => by subst e; exact tok_zero hp ht)⟩
/-- Behind the deferred call nothing old has turned. -/
theorem CatF.below {w w5 w6 : World} {p q e x y : Nat} (h : CatF w5 p q e x y w6) (hb : Below w.heap.size w w5) (hp : w.heap.size ≤ p) (hq : w.heap.size ≤ q) (he : w.heap.size ≤ e) : Below w.heap.size w w6 := by
  have h3 : w6.os = w5.os ∧ w6.tape = w5.tape ∧ w6.output = w5.output ∧ w5.heap.size ≤ w6.heap.size ∧ ∀ k, k < w5.heap.size → k ≠ p → k ≠ q → k ≠ e → w6.heap[k]? = w5.heap[k]? := h.2.2.2
  have hs := hb.size
  refine hb.trans (Below.mk h3.1 h3.2.1 h3.2.2.1 h3.2.2.2.1 fun k hk => ?_)
  exact h3.2.2.2.2 k (by omega) (by omega) (by omega) (by omega)
theorem below_rg {w w3 w5 : World} {n : Nat} {o : Obj} (hb : Below n w w3) (hn : n ≤ w3.heap.size) (hg : Rg w3.heap.size (w3.alloc o) w5) : Below n w w5 := by
  have hz : (w3.alloc o).heap.size = w3.heap.size + 1 := World.size_alloc _ _
  have hs := hg.size
  refine hb.trans (Below.mk hg.os hg.tape hg.output (by omega) fun k hk => ?_)
  rw [hg.same (by omega) (by omega), Below.heap_alloc _ _ _ (by omega)]
/-- A source at whose reading a fault is thrown. -/
theorem fin_panic {tmps : Array Value} {p q e : Nat} (h4 : tmps[4]?.getD undef = bp p) (h5 : tmps[5]?.getD undef = bp q) (h6 : tmps[6]?.getD undef = bp e) {s : ByteArray} {one : Nat → Ts → Res Tm} {w W : World} {y : Nat × Nat} {c0 c1 c2 c3 c4 d0 f0 : Value}
    (hp : W.heap[p]? = some (.cells #[c0, c1, c2, c3, c4] 39 (0, 0))) (hq : W.heap[q]? = some (.cells #[d0] 3 (0, 0))) (he : W.heap[e]? = some (.cells #[f0] 30 (0, 0))) (hpq : p ≠ q) (hpe : p ≠ e) (hqe : q ≠ e) (hp1 : w.heap.size ≤ p) (hq1 : w.heap.size ≤ q) (he1 : w.heap.size ≤ e)
    (hB : Below w.heap.size w W) (hM : readM s one = .error y) :
    Leaves Tryz.prog Tryz.f21 tmps (RdR s one w) [{ target := .fn (.func 35) #[bp p, bp q, bp e], args := #[] }] (.panicking (flt y)) W := by
  refine leaves_cons (f := 35) (args := #[bp p, bp q, bp e]) (by simp) (by simp [go_sem]) ?_
  unfold flt
  refine (catch_panicking p q e y.1 y.2 [] _ _ _ _ _ _ _ W hp hq he hpq hpe hqe).mono ?_
  rintro e' u' w6 ⟨rfl, rfl, F⟩
  exact fin_err h4 h5 h6 F.1 F.2.1 F.2.2.1 (F.below hB hp1 hq1 he1) hM
theorem lex_res (s : ByteArray) (hm : s.size ≤ 4194304) (w : World) (hw : EscW w) {l : List (Tk × Nat)} {a r : Nat} (h : lexM s = (l, a, r)) : Calls Tryz.prog 30 #[.string s] w (fun e w' => ∃ tv, e = .returned (.tuple #[tv, .int .i64 (a : Nat), .int .i64 (r : Nat)]) ∧ TkRow w.heap.size w' tv l ∧ Below w.heap.size w w') := by
  refine (lex_any s hm w hw).mono ?_
  rintro e w' ⟨tv, he, h2, h3⟩
  rw [h] at he h2
  exact ⟨tv, he, h2, h3⟩
set_option maxRecDepth 100000 in
set_option maxHeartbeats 4000000 in
theorem read_any (s : ByteArray) (hm : s.size ≤ 4194304) (one : Nat → Ts → Res Tm) (n : Nat) (HC : OneC one n) (hcf : ∀ (r : Nat) (W : World), (callFunc n #[rp r]).run Tryz.prog W = .ok (.enter n #[rp r]) W) (w : World) (hw : EscW w) :
    Calls Tryz.prog 21 #[.string s, .func (.func n) #[] #[]] w (RdR s one w) := by
  have hpos : 0 < w.heap.size := hw.pos
  have HE := Lib.hid hw
  obtain ⟨l1, a1, r1, hL⟩ : ∃ l a r, lexM s = (l, a, r) := ⟨_, _, _, rfl⟩
  have HL := Lib.hid (fun (W : World) (hW : EscW W) => lex_res s hm W hW hL)
  have HLM := Lib.hid hL
  clear hL
  have HC := Lib.hid HC
  have hmf : ∀ (fn : Fn) (first cap : Array Value) (w : World), (Instr.makeFunc fn first cap).run Tryz.prog w = .ok (.func fn first cap) w := fun _ _ _ _ => rfl
  clear hw
  obtain ⟨c0, c1, c2, hz3, hb3⟩ := boxes3 w (.cells #[.int .i64 0, .string ⟨#[]⟩, .string ⟨#[]⟩, .int .i64 0, .slice none 0 0] 39) (.cells #[.int .i64 0] 3) (.cells #[.int .i64 0] 30)
  have HE1 := Lib.hid (HE.out.below hb3 hpos)
  go_enter_defers Tryz.func21, Tryz.ntmps21
  go_upto_region 1 with (fail)
  generalize hW1 : ((w.alloc (.cells #[.int .i64 0, .string ⟨#[]⟩, .string ⟨#[]⟩, .int .i64 0, .slice none 0 0] 39)).alloc (.cells #[.int .i64 0] 3)).alloc (.cells #[.int .i64 0] 30) = W1 at *
  have HBp1 := Lib.hid c0
  have HBq1 := Lib.hid c1
  have HBe1 := Lib.hid c2
  have HB1 := Lib.hid hb3
  clear hW1 c0 c1 c2 hb3
  go_upto_region 2 with (go_at_call 30; (with_reducible refine (HL.out _ HE1.out).mono ?_); rintro e w2 ⟨tv2, rfl, htk, hb2⟩; have HTK := Lib.hid htk; have HB2 := Lib.hid hb2; have p2 := hb_below HBp1.out hb2 (hb_lt HBp1.out); have q2 := hb_below HBq1.out hb2 (hb_lt HBq1.out); have e2 := hb_below HBe1.out hb2 (hb_lt HBe1.out); have HBp2 := Lib.hid p2; have HBq2 := Lib.hid q2; have HBe2 := Lib.hid e2; obtain ⟨x0, x1, x2, x3, x4, y0, y1, y2, y3, y4⟩ := box5 p2; have q2a := hb_at q2 0 rfl; have q2b := hb_free q2 0; have e2a := hb_at e2 0 rfl; have e2b := hb_free e2 0; have zp := hb_lt p2; have zq := hb_lt q2; have ze := hb_lt e2; clear htk hb2 p2 q2 e2)
  have p3 : ((w2.setCell ⟨w.heap.size + 1, 0, none⟩ (.int .i64 (a1 : Nat))).setCell ⟨w.heap.size + 1 + 1, 0, none⟩ (.int .i64 (r1 : Nat))).heap[w.heap.size]? = some (.cells #[.int .i64 0, .string ⟨#[]⟩, .string ⟨#[]⟩, .int .i64 0, .slice none 0 0] 39 (0, 0)) := hb_set_other (hb_set_other HBp2.out (a := ⟨w.heap.size + 1, 0, none⟩) _ (by show w.heap.size ≠ w.heap.size + 1; omega)) (a := ⟨w.heap.size + 1 + 1, 0, none⟩) _ (by show w.heap.size ≠ w.heap.size + 1 + 1; omega)
  have q3 : ((w2.setCell ⟨w.heap.size + 1, 0, none⟩ (.int .i64 (a1 : Nat))).setCell ⟨w.heap.size + 1 + 1, 0, none⟩ (.int .i64 (r1 : Nat))).heap[w.heap.size + 1]? = some (.cells #[.int .i64 (a1 : Nat)] 3 (0, 0)) := hb_set_other (hb_set_same HBq2.out 0 _) (a := ⟨w.heap.size + 1 + 1, 0, none⟩) _ (by show w.heap.size + 1 ≠ w.heap.size + 1 + 1; omega)
  have e3 : ((w2.setCell ⟨w.heap.size + 1, 0, none⟩ (.int .i64 (a1 : Nat))).setCell ⟨w.heap.size + 1 + 1, 0, none⟩ (.int .i64 (r1 : Nat))).heap[w.heap.size + 1 + 1]? = some (.cells #[.int .i64 (r1 : Nat)] 30 (0, 0)) := hb_set_same (hb_set_other HBe2.out (a := ⟨w.heap.size + 1, 0, none⟩) _ (by show w.heap.size + 1 + 1 ≠ w.heap.size + 1; omega)) 0 _
  have b3 : Below w.heap.size w ((w2.setCell ⟨w.heap.size + 1, 0, none⟩ (.int .i64 (a1 : Nat))).setCell ⟨w.heap.size + 1 + 1, 0, none⟩ (.int .i64 (r1 : Nat))) := ((HB1.out.trans (HB2.out.mono HB1.out.size)).setCell (by show w.heap.size ≤ w.heap.size + 1; omega) _).setCell (by show w.heap.size ≤ w.heap.size + 1 + 1; omega) _
  have k3 : TkRow W1.heap.size ((w2.setCell ⟨w.heap.size + 1, 0, none⟩ (.int .i64 (a1 : Nat))).setCell ⟨w.heap.size + 1 + 1, 0, none⟩ (.int .i64 (r1 : Nat))) tv2 l1 := own_kept HTK.out fun g x hg hx => by
    have := (World.ownsRow.lt HTK.out g hg).1
    exact hb_set_other (hb_set_other hx (a := ⟨w.heap.size + 1, 0, none⟩) _ (by show g ≠ w.heap.size + 1; omega)) (a := ⟨w.heap.size + 1 + 1, 0, none⟩) _ (by show g ≠ w.heap.size + 1 + 1; omega)
  have hW3 : ∃ w3, w3 = ((w2.setCell ⟨w.heap.size + 1, 0, none⟩ (.int .i64 (a1 : Nat))).setCell ⟨w.heap.size + 1 + 1, 0, none⟩ (.int .i64 (r1 : Nat))) := ⟨_, rfl⟩
  obtain ⟨w3, hW3⟩ := hW3
  rw [← hW3] at p3 q3 e3 b3 k3 ⊢
  clear hW3
  have HBp3 := Lib.hid p3
  have HBq3 := Lib.hid q3
  have HBe3 := Lib.hid e3
  have HB3 := Lib.hid b3
  have HK3 := Lib.hid k3
  obtain ⟨m0, m1, m2, m3, m4, n0, n1, n2, n3, n4⟩ := box5 p3
  have q3a := hb_at q3 0 rfl
  have q3b := hb_free q3 0
  have e3a := hb_at e3 0 rfl
  have e3b := hb_free e3 0
  have zp3 := hb_lt p3
  have zq3 := hb_lt q3
  have ze3 := hb_lt e3
  clear p3 q3 e3 b3 k3 HBp2 HBq2 HBe2 HB2 HTK
  by_cases her : r1 = 0
  · subst her
    have hlx : (lexM s).2.2 = 0 := by rw [HLM.out]
    have ha1 : a1 = 0 := by
      have h := (lexM_lexed hlx).2.2.2
      rw [HLM.out] at h
      exact h
    subst ha1
    obtain ⟨hs20, hl6, hsz⟩ := lexM_small hlx
    rw [HLM.out] at hl6 hsz
    have hM : readM s one = wholeP s.size (one s.size) l1 := by
      unfold readM
      rw [HLM.out]
      exact if_neg (fun h => h rfl)
    obtain ⟨ao, cap, htv⟩ := HK3.out.shape
    subst htv
    have hr4 : Rd w3.heap.size s.size (w3.alloc (.cells #[.slice ao l1.length cap, .int .i64 (s.size : Nat)] 91)) l1 := ⟨by omega, _, hb_new _ _, (HK3.out.tok (Nat.le_refl _) hl6 (fun x hx => Nat.le_trans (hsz x hx).2 (by decide))).upto fun b hb hl => Below.heap_alloc _ _ _ hl⟩
    have HR4 := Lib.hid hr4
    have HX4 := Lib.hid (HC.out w3.heap.size s.size l1 _ hr4)
    have HMR := Lib.hid hM
    clear hr4 hM hsz hlx HK3
    have hcf' := hcf w3.heap.size
    cases hX : one s.size l1 with
    | error y =>
      rw [hX] at HX4
      have hM : readM s one = .error y := by rw [HMR.out]; unfold wholeP; rw [hX]
      have HM2 := Lib.hid hM
      clear hM HMR
      go_wp2_with ((with_reducible refine HX4.out.mono ?_); rintro e w5 ⟨hg, hy⟩; subst hy; have HG5 := Lib.hid hg; clear hg)
      exact fin_panic rfl rfl rfl (HG5.out.keep (hb_alloc HBp3.out _) (by omega)) (HG5.out.keep (hb_alloc HBq3.out _) (by omega)) (HG5.out.keep (hb_alloc HBe3.out _) (by omega)) (by omega) (by omega) (by omega) (by omega) (by omega) (by omega) (below_rg HB3.out (by omega) HG5.out) HM2.out
    | ok y =>
      rw [hX] at HX4
      obtain ⟨t5, ts5⟩ := y
      have hM : readM s one = if ts5.length = 0 then .ok t5 else .error ((nx s.size ts5).2, 10) := by rw [HMR.out]; unfold wholeP; rw [hX]
      have HM2 := Lib.hid hM
      clear hM HMR
      go_upto_region 7 with ((with_reducible refine HX4.out.mono ?_); rintro e w5 ⟨hg, ⟨v5, rfl, hV⟩, hR5⟩; (obtain ⟨k5, pk5, n5, N5, q5, ln5, cc5, rfl⟩ := hV.shape); have HV5 := Lib.hid hV; have HG5 := Lib.hid hg; have HR5 := Lib.hid hR5; have HBp5 := Lib.hid (hg.keep (hb_alloc HBp3.out _) (by omega)); have HBq5 := Lib.hid (hg.keep (hb_alloc HBq3.out _) (by omega)); have HBe5 := Lib.hid (hg.keep (hb_alloc HBe3.out _) (by omega)); have HB5 := Lib.hid (below_rg HB3.out (by omega) hg); clear hg hV hR5; obtain ⟨x0, x1, x2, x3, x4, y0, y1, y2, y3, y4⟩ := box5 HBp5.out)
      have p6 : (((((w5.setCell ⟨w.heap.size, 0, none⟩ (.int .i64 k5)).setCell ⟨w.heap.size, 1, none⟩ (.string pk5)).setCell ⟨w.heap.size, 2, none⟩ (.string n5)).setCell ⟨w.heap.size, 3, none⟩ (.int .i64 N5)).setCell ⟨w.heap.size, 4, none⟩ (.slice q5 ln5 cc5)).heap[w.heap.size]? = some (.cells #[.int .i64 k5, .string pk5, .string n5, .int .i64 N5, .slice q5 ln5 cc5] 39 (0, 0)) := set5w_box HBp5.out _ _ _ _ _
      have q6 : (((((w5.setCell ⟨w.heap.size, 0, none⟩ (.int .i64 k5)).setCell ⟨w.heap.size, 1, none⟩ (.string pk5)).setCell ⟨w.heap.size, 2, none⟩ (.string n5)).setCell ⟨w.heap.size, 3, none⟩ (.int .i64 N5)).setCell ⟨w.heap.size, 4, none⟩ (.slice q5 ln5 cc5)).heap[w.heap.size + 1]? = some (.cells #[.int .i64 (0 : Nat)] 3 (0, 0)) := (set5w_other (k := k5) (p := pk5) (n := n5) (N := N5) (s := .slice q5 ln5 cc5) (by omega)).trans HBq5.out
      have e6 : (((((w5.setCell ⟨w.heap.size, 0, none⟩ (.int .i64 k5)).setCell ⟨w.heap.size, 1, none⟩ (.string pk5)).setCell ⟨w.heap.size, 2, none⟩ (.string n5)).setCell ⟨w.heap.size, 3, none⟩ (.int .i64 N5)).setCell ⟨w.heap.size, 4, none⟩ (.slice q5 ln5 cc5)).heap[w.heap.size + 1 + 1]? = some (.cells #[.int .i64 (0 : Nat)] 30 (0, 0)) := (set5w_other (k := k5) (p := pk5) (n := n5) (N := N5) (s := .slice q5 ln5 cc5) (by omega)).trans HBe5.out
      have r6 : Rd w3.heap.size s.size (((((w5.setCell ⟨w.heap.size, 0, none⟩ (.int .i64 k5)).setCell ⟨w.heap.size, 1, none⟩ (.string pk5)).setCell ⟨w.heap.size, 2, none⟩ (.string n5)).setCell ⟨w.heap.size, 3, none⟩ (.int .i64 N5)).setCell ⟨w.heap.size, 4, none⟩ (.slice q5 ln5 cc5)) ts5 := HR5.out.set5p HBp5.out (by omega) k5 pk5 n5 N5 (.slice q5 ln5 cc5)
      have b6 : Below w.heap.size w (((((w5.setCell ⟨w.heap.size, 0, none⟩ (.int .i64 k5)).setCell ⟨w.heap.size, 1, none⟩ (.string pk5)).setCell ⟨w.heap.size, 2, none⟩ (.string n5)).setCell ⟨w.heap.size, 3, none⟩ (.int .i64 N5)).setCell ⟨w.heap.size, 4, none⟩ (.slice q5 ln5 cc5)) := ((((HB5.out.setCell (Nat.le_refl _) _).setCell (Nat.le_refl _) _).setCell (Nat.le_refl _) _).setCell (Nat.le_refl _) _).setCell (Nat.le_refl _) _
      have v6 : TmV (w3.alloc (.cells #[.slice ao l1.length cap, .int .i64 (s.size : Nat)] 91)) (((((w5.setCell ⟨w.heap.size, 0, none⟩ (.int .i64 k5)).setCell ⟨w.heap.size, 1, none⟩ (.string pk5)).setCell ⟨w.heap.size, 2, none⟩ (.string n5)).setCell ⟨w.heap.size, 3, none⟩ (.int .i64 N5)).setCell ⟨w.heap.size, 4, none⟩ (.slice q5 ln5 cc5)) (tv k5 pk5 n5 N5 (.slice q5 ln5 cc5)) t5 := HV5.out.move (r := w.heap.size) (by rw [World.size_alloc]; omega) (((((Rg.refl w.heap.size w5).set 0 _).set 1 _).set 2 _).set 3 _ |>.set 4 _)
      obtain ⟨w6, hW6⟩ : ∃ w6, w6 = (((((w5.setCell ⟨w.heap.size, 0, none⟩ (.int .i64 k5)).setCell ⟨w.heap.size, 1, none⟩ (.string pk5)).setCell ⟨w.heap.size, 2, none⟩ (.string n5)).setCell ⟨w.heap.size, 3, none⟩ (.int .i64 N5)).setCell ⟨w.heap.size, 4, none⟩ (.slice q5 ln5 cc5)) := ⟨_, rfl⟩
      rw [← hW6] at p6 q6 e6 r6 b6 v6 ⊢
      clear hW6 x0 x1 x2 x3 x4 y0 y1 y2 y3 y4 m0 m1 m2 m3 m4 n0 n1 n2 n3 n4 q3a q3b e3a e3b HG5 HBp5 HBq5 HBe5 HB5 HV5 HR5
      have HBp6 := Lib.hid p6
      have HBq6 := Lib.hid q6
      have HBe6 := Lib.hid e6
      have HR6 := Lib.hid r6
      have HB6 := Lib.hid b6
      have HV6 := Lib.hid v6
      obtain ⟨x0, x1, x2, x3, x4, y0, y1, y2, y3, y4⟩ := box5 p6
      have q6a := hb_at q6 0 rfl
      have q6b := hb_free q6 0
      have e6a := hb_at e6 0 rfl
      have e6b := hb_free e6 0
      have zp6 := hb_lt p6
      have zq6 := hb_lt q6
      have ze6 := hb_lt e6
      obtain ⟨_, tv6, hr6, qq6, cq6, htv6, _⟩ := r6
      subst htv6
      have r6a := hb_at hr6 0 rfl
      have zr6 := hb_lt hr6
      have hw4 : w.heap.size ≤ (w3.alloc (.cells #[.slice ao l1.length cap, .int .i64 (s.size : Nat)] 91)).heap.size := by rw [World.size_alloc]; omega
      have hw5 : w.heap.size + 1 + 1 < (w3.alloc (.cells #[.slice ao l1.length cap, .int .i64 (s.size : Nat)] 91)).heap.size := by rw [World.size_alloc]; omega
      clear p6 q6 e6 b6 v6 hr6
      by_cases hl : ts5.length = 0
      · have hd : decide ((0 : Int) < (ts5.length : Int)) = false := decide_eq_false (by omega)
        have hM : readM s one = .ok t5 := by rw [HM2.out]; exact if_pos hl
        have HM3 := Lib.hid hM
        have hPp : ∀ V : World, V = ((set5w w6 w.heap.size k5 pk5 n5 N5 (.slice q5 ln5 cc5)).setCell ⟨w.heap.size + 1, 0, none⟩ (.int .i64 0)).setCell ⟨w.heap.size + 1 + 1, 0, none⟩ (.int .i64 0) → V.heap[w.heap.size]? = some (.cells #[.int .i64 k5, .string pk5, .string n5, .int .i64 N5, .slice q5 ln5 cc5] 39 (0, 0)) ∧ V.heap[w.heap.size + 1]? = some (.cells #[.int .i64 0] 3 (0, 0)) ∧ V.heap[w.heap.size + 1 + 1]? = some (.cells #[.int .i64 0] 30 (0, 0)) ∧ Below w.heap.size w V ∧ TmV w V (tv k5 pk5 n5 N5 (.slice q5 ln5 cc5)) t5 := by
          intro V hV
          refine ⟨?_, ?_, ?_, ?_, ?_⟩
          · rw [hV]
            exact hb_set_other (hb_set_other (set5w_box HBp6.out _ _ _ _ _) (a := ⟨w.heap.size + 1, 0, none⟩) _ (by show w.heap.size ≠ w.heap.size + 1; omega)) (a := ⟨w.heap.size + 1 + 1, 0, none⟩) _ (by show w.heap.size ≠ w.heap.size + 1 + 1; omega)
          · rw [hV]
            refine hb_set_other (hb_set_same (c := #[.int .i64 (0 : Nat)]) ?_ 0 _) (a := ⟨w.heap.size + 1 + 1, 0, none⟩) _ (by show w.heap.size + 1 ≠ w.heap.size + 1 + 1; omega)
            rw [set5w_other (by omega)]
            exact HBq6.out
          · rw [hV]
            refine hb_set_same (c := #[.int .i64 (0 : Nat)]) (hb_set_other ?_ (a := ⟨w.heap.size + 1, 0, none⟩) _ (by show w.heap.size + 1 + 1 ≠ w.heap.size + 1; omega)) 0 _
            rw [set5w_other (by omega)]
            exact HBe6.out
          · rw [hV]
            have h5 : Below w.heap.size w (set5w w6 w.heap.size k5 pk5 n5 N5 (.slice q5 ln5 cc5)) := ((((HB6.out.setCell (Nat.le_refl _) _).setCell (Nat.le_refl _) _).setCell (Nat.le_refl _) _).setCell (Nat.le_refl _) _).setCell (Nat.le_refl _) _
            exact (h5.setCell (by show w.heap.size ≤ w.heap.size + 1; omega) _).setCell (by show w.heap.size ≤ w.heap.size + 1 + 1; omega) _
          · have h5 : TmV (w3.alloc (.cells #[.slice ao l1.length cap, .int .i64 (s.size : Nat)] 91)) (set5w w6 w.heap.size k5 pk5 n5 N5 (.slice q5 ln5 cc5)) (tv k5 pk5 n5 N5 (.slice q5 ln5 cc5)) t5 := HV6.out.move (r := w.heap.size) (by omega) (((((Rg.refl w.heap.size w6).set 0 _).set 1 _).set 2 _).set 3 _ |>.set 4 _)
            have h6 := (h5.move (r := w.heap.size + 1) (by omega) ((Rg.refl (w.heap.size + 1) _).set 0 (.int .i64 0))).move (r := w.heap.size + 1 + 1) (by omega) ((Rg.refl (w.heap.size + 1 + 1) _).set 0 (.int .i64 0))
            rw [← hV] at h6
            exact h6.up hw4
        clear hM
        go_wp2
        all_goals
          have F := hPp _ rfl
          refine leaves_cons (f := 35) (args := #[bp w.heap.size, bp (w.heap.size + 1), bp (w.heap.size + 1 + 1)]) (by simp) (by simp [go_sem]) ?_
          refine (catch_idle _ _ _ _).mono ?_
          rintro e' u' w8 ⟨rfl, rfl, rfl⟩
          exact fin_term rfl rfl rfl F.1 F.2.1 F.2.2.1 F.2.2.2.1 HM3.out F.2.2.2.2
      · have hd : decide ((0 : Int) < (ts5.length : Int)) = true := decide_eq_true (by omega)
        have hM : readM s one = .error ((nx s.size ts5).2, 10) := by rw [HM2.out]; exact if_neg hl
        have HM3 := Lib.hid hM
        have HF := Lib.hid (fun W hW => fault_at w3.heap.size s.size 10 ts5 W hW 10 rfl)
        clear hM
        go_upto_region 8 with (fail)
        go_wp2_with (go_at_call 32; (with_reducible refine (HF.out _ HR6.out).mono ?_); rintro e w7 ⟨rfl, hb7⟩; have HB7 := Lib.hid hb7; clear hb7)
        exact fin_panic rfl rfl rfl (hb_below HBp6.out HB7.out (by omega)) (hb_below HBq6.out HB7.out (by omega)) (hb_below HBe6.out HB7.out (by omega)) (by omega) (by omega) (by omega) (by omega) (by omega) (by omega) (HB6.out.trans (HB7.out.mono HB6.out.size)) HM3.out
  · have hd : ((r1 : Int) != 0) = true := by simp; omega
    have hM : readM s one = .error (a1, r1) := by
      unfold readM
      rw [HLM.out]
      exact if_pos her
    have HMR := Lib.hid hM
    clear hM
    have hPp : ∀ V : World, V = ((set5w w3 w.heap.size 0 ⟨#[]⟩ ⟨#[]⟩ 0 (.slice none 0 0)).setCell ⟨w.heap.size + 1, 0, none⟩ (.int .i64 (a1 : Nat))).setCell ⟨w.heap.size + 1 + 1, 0, none⟩ (.int .i64 (r1 : Nat)) → V.drew.heap[w.heap.size]? = some (.cells #[.int .i64 0, .string ⟨#[]⟩, .string ⟨#[]⟩, .int .i64 0, .slice none 0 0] 39 (0, 0)) ∧ V.drew.heap[w.heap.size + 1]? = some (.cells #[.int .i64 (a1 : Nat)] 3 (0, 0)) ∧ V.drew.heap[w.heap.size + 1 + 1]? = some (.cells #[.int .i64 (r1 : Nat)] 30 (0, 0)) ∧ Below w.heap.size w V.drew := by
      intro V hV
      have d1 : V.drew.heap = V.heap := rfl
      rw [d1]
      refine ⟨?_, ?_, ?_, Below.drew ?_⟩ <;> rw [hV]
      · exact hb_set_other (hb_set_other (set5w_box HBp3.out _ _ _ _ _) (a := ⟨w.heap.size + 1, 0, none⟩) _ (by show w.heap.size ≠ w.heap.size + 1; omega)) (a := ⟨w.heap.size + 1 + 1, 0, none⟩) _ (by show w.heap.size ≠ w.heap.size + 1 + 1; omega)
      · refine hb_set_other (hb_set_same (c := #[.int .i64 (a1 : Nat)]) ?_ 0 _) (a := ⟨w.heap.size + 1 + 1, 0, none⟩) _ (by show w.heap.size + 1 ≠ w.heap.size + 1 + 1; omega)
        rw [set5w_other (by omega)]
        exact HBq3.out
      · refine hb_set_same (c := #[.int .i64 (r1 : Nat)]) (hb_set_other ?_ (a := ⟨w.heap.size + 1, 0, none⟩) _ (by show w.heap.size + 1 + 1 ≠ w.heap.size + 1; omega)) 0 _
        rw [set5w_other (by omega)]
        exact HBe3.out
      · have h5 : Below w.heap.size w (set5w w3 w.heap.size 0 ⟨#[]⟩ ⟨#[]⟩ 0 (.slice none 0 0)) := ((((HB3.out.setCell (Nat.le_refl _) _).setCell (Nat.le_refl _) _).setCell (Nat.le_refl _) _).setCell (Nat.le_refl _) _).setCell (Nat.le_refl _) _
        exact (h5.setCell (by show w.heap.size ≤ w.heap.size + 1; omega) _).setCell (by show w.heap.size ≤ w.heap.size + 1 + 1; omega) _
    go_upto_region 3 with (fail)
    go_region_with (fail)
    all_goals
      go_wp2
      have F := hPp _ rfl
      exact fin_err rfl rfl rfl F.1 F.2.1 F.2.2.1 F.2.2.2 HMR.out
end Go.Proofs.YtlbnaddgdgbckaaGreatDoor
/- Expr and Type: a source, read whole. -/
namespace Go.Proofs.YtlbnaddgdgbckaaGreatDoor
open Go.RowKit
set_option linter.unusedSimpArgs false
set_option linter.unusedVariables false
/-- What the sources come to. -/
def exprM (s : ByteArray) : Except (Nat × Nat) Tm := readM s fun E ts => exprP E 40 ts
def typM (s : ByteArray) : Except (Nat × Nat) Tm := readM s fun E ts => typP E 40 ts
theorem res_box {i : Nat} {tmps : Array Value} {fn : Func} (hres : fn.results = #[ResultVar.cell i 39]) {g : Nat} (h : tmps[i]?.getD undef = bp g) {w : World} {c0 c1 c2 c3 c4 : Value} {t : TypeId} {f : Nat × Nat} (hb : w.heap[g]? = some (.cells #[c0, c1, c2, c3, c4] t f)) :
    (results fn tmps).run Tryz.prog w = .ok (.agg #[c0, c1, c2, c3, c4]) w := res_term hres h hb
set_option maxRecDepth 100000 in
set_option maxHeartbeats 2000000 in
theorem exprTop_any : OneC (fun E ts => exprP E 40 ts) 22 := by
  intro r E ts w hR
  have HR := Lib.hid hR
  have hrl := hR.lt
  have HC : Hid (∀ W, Rd r E W ts → Calls Tryz.prog 23 #[rp r, .int .i64 1] W (Got r E TmV W (exprP E 40 ts))) := Lib.hid (fun W hW => expr_any r E 40 1 rfl ts W hW)
  clear hR
  show Calls _ _ _ _ (Got r E TmV w (exprP E 40 ts))
  generalize exprP E 40 ts = X at *
  go_enter Tryz.func22, Tryz.ntmps22
  cases X with
  | error y =>
    go_wp2_with (go_at_call 23; (with_reducible refine (HC.out _ (HR.out.alloc _)).mono ?_); rintro e w1 ⟨hg, hy⟩; subst hy; have HG := Lib.hid hg; clear hg)
    all_goals exact ⟨rfl, (Rg.refl r w).alloc _ |>.trans HG.out, rfl⟩
  | ok y =>
    obtain ⟨t, ts'⟩ := y
    go_wp2_with (go_at_call 23; (with_reducible refine (HC.out _ (HR.out.alloc _)).mono ?_); rintro e w1 ⟨hg, ⟨v, rfl, hV⟩, hR1⟩; (obtain ⟨k, pk, n, N, q, ln, c, rfl⟩ := hV.shape); have HV := Lib.hid hV; have HG := Lib.hid hg; have HR1 := Lib.hid hR1; have hb := hg.keep (hb_new _ _) (by omega); have HB := Lib.hid hb; have zb := hb_lt hb; obtain ⟨x0, x1, x2, x3, x4, y0, y1, y2, y3, y4⟩ := box5 hb; clear hg hV hR1 hb)
    all_goals
      refine bodyPost_ret (v := tv k pk n N (.slice q ln c)) (res_box rfl rfl (set5w_box HB.out _ _ _ _ _)) rfl ?_
      refine ⟨((Rg.refl r w).alloc _ |>.trans HG.out) |>.set_new (Nat.le_refl _) 0 _ |>.set_new (Nat.le_refl _) 1 _ |>.set_new (Nat.le_refl _) 2 _ |>.set_new (Nat.le_refl _) 3 _ |>.set_new (Nat.le_refl _) 4 _, ⟨_, rfl, ?_⟩, ?_⟩
      · have h1 := HV.out.move (r := w.heap.size) (by rw [World.size_alloc]; omega) (((((Rg.refl w.heap.size w1).set 0 (.int .i64 k)).set 1 (.string pk)).set 2 (.string n)).set 3 (.int .i64 N) |>.set 4 (.slice q ln c))
        exact h1.up (by rw [World.size_alloc]; omega)
      · exact ((((HR1.out.set_new hrl 0 _).set_new hrl 1 _).set_new hrl 2 _).set_new hrl 3 _).set_new hrl 4 _
set_option maxRecDepth 100000 in
set_option maxHeartbeats 2000000 in
theorem typTop_any : OneC (fun E ts => typP E 40 ts) 24 := by
  intro r E ts w hR
  have HR := Lib.hid hR
  have hrl := hR.lt
  have HC : Hid (∀ W, Rd r E W ts → Calls Tryz.prog 25 #[rp r, .int .i64 1] W (Got r E TmV W (typP E 40 ts))) := Lib.hid (fun W hW => typ_any r E 40 1 rfl ts W hW)
  clear hR
  show Calls _ _ _ _ (Got r E TmV w (typP E 40 ts))
  generalize typP E 40 ts = X at *
  go_enter Tryz.func24, Tryz.ntmps24
  cases X with
  | error y =>
    go_wp2_with (go_at_call 25; (with_reducible refine (HC.out _ (HR.out.alloc _)).mono ?_); rintro e w1 ⟨hg, hy⟩; subst hy; have HG := Lib.hid hg; clear hg)
    all_goals exact ⟨rfl, (Rg.refl r w).alloc _ |>.trans HG.out, rfl⟩
  | ok y =>
    obtain ⟨t, ts'⟩ := y
    go_wp2_with (go_at_call 25; (with_reducible refine (HC.out _ (HR.out.alloc _)).mono ?_); rintro e w1 ⟨hg, ⟨v, rfl, hV⟩, hR1⟩; (obtain ⟨k, pk, n, N, q, ln, c, rfl⟩ := hV.shape); have HV := Lib.hid hV; have HG := Lib.hid hg; have HR1 := Lib.hid hR1; have hb := hg.keep (hb_new _ _) (by omega); have HB := Lib.hid hb; have zb := hb_lt hb; obtain ⟨x0, x1, x2, x3, x4, y0, y1, y2, y3, y4⟩ := box5 hb; clear hg hV hR1 hb)
    all_goals
      refine bodyPost_ret (v := tv k pk n N (.slice q ln c)) (res_box rfl rfl (set5w_box HB.out _ _ _ _ _)) rfl ?_
      refine ⟨((Rg.refl r w).alloc _ |>.trans HG.out) |>.set_new (Nat.le_refl _) 0 _ |>.set_new (Nat.le_refl _) 1 _ |>.set_new (Nat.le_refl _) 2 _ |>.set_new (Nat.le_refl _) 3 _ |>.set_new (Nat.le_refl _) 4 _, ⟨_, rfl, ?_⟩, ?_⟩
      · have h1 := HV.out.move (r := w.heap.size) (by rw [World.size_alloc]; omega) (((((Rg.refl w.heap.size w1).set 0 (.int .i64 k)).set 1 (.string pk)).set 2 (.string n)).set 3 (.int .i64 N) |>.set 4 (.slice q ln c))
        exact h1.up (by rw [World.size_alloc]; omega)
      · exact ((((HR1.out.set_new hrl 0 _).set_new hrl 1 _).set_new hrl 2 _).set_new hrl 3 _).set_new hrl 4 _
theorem res_exprR {tmps : Array Value} {g : Nat} {a b : Value} (h2 : tmps[2]?.getD undef = bp g) (h3 : tmps[3]?.getD undef = a) (h4 : tmps[4]?.getD undef = b) {W : World} {c0 c1 c2 c3 c4 : Value} {t : TypeId} {f : Nat × Nat} (hb : W.heap[g]? = some (.cells #[c0, c1, c2, c3, c4] t f)) :
    (results Tryz.f12 tmps).run Tryz.prog W = .ok (.tuple #[.agg #[c0, c1, c2, c3, c4], a, b]) W := by
  have x0 := hb_at hb 0 rfl
  have x1 := hb_at hb 1 rfl
  have x2 := hb_at hb 2 rfl
  have x3 := hb_at hb 3 rfl
  have x4 := hb_at hb 4 rfl
  simp [results, Tryz.results12, h2, h3, h4, go_sem, Tryz.isAgg39, Tryz.isAgg3, Tryz.isAgg30, x0, x1, x2, x3, x4]
/-- What the function answers. -/
def ExprR (s : ByteArray) (w : World) (e : Ending) (w' : World) : Prop := Below w.heap.size w w' ∧ match exprM s with
  | .ok t => ∃ v, e = .returned (.tuple #[v, .int .i64 0, .int .i64 0]) ∧ TmV w w' v t
  | .error y => e = .returned (.tuple #[zT, .int .i64 (y.1 : Nat), .int .i64 (y.2 : Nat)])
set_option maxRecDepth 100000 in
set_option maxHeartbeats 2000000 in
theorem exprR_any (s : ByteArray) (hm : s.size ≤ 4194304) (w : World) (hw : EscW w) : Calls Tryz.prog 12 #[.string s] w (ExprR s w) := by
  have hpos : 0 < w.heap.size := hw.pos
  have HE := Lib.hid hw
  have HC := Lib.hid (fun W hW => read_any s hm _ 22 exprTop_any (fun _ _ => rfl) W hW)
  clear hw
  unfold RdR at HC
  unfold ExprR
  change Hid (∀ W, EscW W → Calls Tryz.prog 21 #[.string s, .func (.func 22) #[] #[]] W fun e w' => Below W.heap.size W w' ∧ match exprM s with
    | .ok t => ∃ v, e = .returned (.tuple #[v, .int .i64 0, .int .i64 0]) ∧ TmV W w' v t
    | .error y => e = .returned (.tuple #[zT, .int .i64 (y.1 : Nat), .int .i64 (y.2 : Nat)])) at HC
  generalize exprM s = X at *
  have HE1 := Lib.hid (HE.out.below (below_alloc w (.cells #[.int .i64 0, .string ⟨#[]⟩, .string ⟨#[]⟩, .int .i64 0, .slice none 0 0] 39)) hpos)
  go_enter Tryz.func12, Tryz.ntmps12
  cases X with
  | error y =>
    go_wp2_with (go_at_call 21; (with_reducible refine (HC.out _ HE1.out).mono ?_); rintro e w1 ⟨hg, rfl⟩; have HG := Lib.hid hg; have hb := hb_below (hb_new _ _) hg (hb_lt (hb_new _ _)); have HB := Lib.hid hb; have zb := hb_lt hb; obtain ⟨x0, x1, x2, x3, x4, y0, y1, y2, y3, y4⟩ := box5 hb; clear hg hb)
    all_goals
      refine bodyPost_ret (v := .tuple #[zT, .int .i64 (y.1 : Nat), .int .i64 (y.2 : Nat)]) (res_exprR rfl rfl rfl (set5w_box HB.out _ _ _ _ _)) rfl ⟨?_, rfl⟩
      exact ((((((below_alloc w _).trans (HG.out.mono (by rw [World.size_alloc]; omega))).setCell (Nat.le_refl _) _).setCell (Nat.le_refl _) _).setCell (Nat.le_refl _) _).setCell (Nat.le_refl _) _).setCell (Nat.le_refl _) _
  | ok t =>
    go_wp2_with (go_at_call 21; (with_reducible refine (HC.out _ HE1.out).mono ?_); rintro e w1 ⟨hg, v, rfl, hV⟩; (obtain ⟨k, pk, n, N, q, ln, c, rfl⟩ := hV.shape); have HV := Lib.hid hV; have HG := Lib.hid hg; have hb := hb_below (hb_new _ _) hg (hb_lt (hb_new _ _)); have HB := Lib.hid hb; have zb := hb_lt hb; obtain ⟨x0, x1, x2, x3, x4, y0, y1, y2, y3, y4⟩ := box5 hb; clear hg hb hV)
    all_goals
      refine bodyPost_ret (v := .tuple #[tv k pk n N (.slice q ln c), .int .i64 0, .int .i64 0]) (res_exprR rfl rfl rfl (set5w_box HB.out _ _ _ _ _)) rfl ⟨?_, _, rfl, ?_⟩
      · exact ((((((below_alloc w _).trans (HG.out.mono (by rw [World.size_alloc]; omega))).setCell (Nat.le_refl _) _).setCell (Nat.le_refl _) _).setCell (Nat.le_refl _) _).setCell (Nat.le_refl _) _).setCell (Nat.le_refl _) _
      · have h1 := HV.out.move (r := w.heap.size) (by rw [World.size_alloc]; omega) (((((Rg.refl w.heap.size w1).set 0 (.int .i64 k)).set 1 (.string pk)).set 2 (.string n)).set 3 (.int .i64 N) |>.set 4 (.slice q ln c))
        exact h1.up (by rw [World.size_alloc]; omega)
theorem res_typR {tmps : Array Value} {g : Nat} {a b : Value} (h2 : tmps[2]?.getD undef = bp g) (h3 : tmps[3]?.getD undef = a) (h4 : tmps[4]?.getD undef = b) {W : World} {c0 c1 c2 c3 c4 : Value} {t : TypeId} {f : Nat × Nat} (hb : W.heap[g]? = some (.cells #[c0, c1, c2, c3, c4] t f)) :
    (results Tryz.f13 tmps).run Tryz.prog W = .ok (.tuple #[.agg #[c0, c1, c2, c3, c4], a, b]) W := by
  have x0 := hb_at hb 0 rfl
  have x1 := hb_at hb 1 rfl
  have x2 := hb_at hb 2 rfl
  have x3 := hb_at hb 3 rfl
  have x4 := hb_at hb 4 rfl
  simp [results, Tryz.results13, h2, h3, h4, go_sem, Tryz.isAgg39, Tryz.isAgg3, Tryz.isAgg30, x0, x1, x2, x3, x4]
/-- What the function answers. -/
def TypR (s : ByteArray) (w : World) (e : Ending) (w' : World) : Prop := Below w.heap.size w w' ∧ match typM s with
  | .ok t => ∃ v, e = .returned (.tuple #[v, .int .i64 0, .int .i64 0]) ∧ TmV w w' v t
  | .error y => e = .returned (.tuple #[zT, .int .i64 (y.1 : Nat), .int .i64 (y.2 : Nat)])
set_option maxRecDepth 100000 in
set_option maxHeartbeats 2000000 in
theorem typR_any (s : ByteArray) (hm : s.size ≤ 4194304) (w : World) (hw : EscW w) : Calls Tryz.prog 13 #[.string s] w (TypR s w) := by
  have hpos : 0 < w.heap.size := hw.pos
  have HE := Lib.hid hw
  have HC := Lib.hid (fun W hW => read_any s hm _ 24 typTop_any (fun _ _ => rfl) W hW)
  clear hw
  unfold RdR at HC
  unfold TypR
  change Hid (∀ W, EscW W → Calls Tryz.prog 21 #[.string s, .func (.func 24) #[] #[]] W fun e w' => Below W.heap.size W w' ∧ match typM s with
    | .ok t => ∃ v, e = .returned (.tuple #[v, .int .i64 0, .int .i64 0]) ∧ TmV W w' v t
    | .error y => e = .returned (.tuple #[zT, .int .i64 (y.1 : Nat), .int .i64 (y.2 : Nat)])) at HC
  generalize typM s = X at *
  have HE1 := Lib.hid (HE.out.below (below_alloc w (.cells #[.int .i64 0, .string ⟨#[]⟩, .string ⟨#[]⟩, .int .i64 0, .slice none 0 0] 39)) hpos)
  go_enter Tryz.func13, Tryz.ntmps13
  cases X with
  | error y =>
    go_wp2_with (go_at_call 21; (with_reducible refine (HC.out _ HE1.out).mono ?_); rintro e w1 ⟨hg, rfl⟩; have HG := Lib.hid hg; have hb := hb_below (hb_new _ _) hg (hb_lt (hb_new _ _)); have HB := Lib.hid hb; have zb := hb_lt hb; obtain ⟨x0, x1, x2, x3, x4, y0, y1, y2, y3, y4⟩ := box5 hb; clear hg hb)
    all_goals
      refine bodyPost_ret (v := .tuple #[zT, .int .i64 (y.1 : Nat), .int .i64 (y.2 : Nat)]) (res_typR rfl rfl rfl (set5w_box HB.out _ _ _ _ _)) rfl ⟨?_, rfl⟩
      exact ((((((below_alloc w _).trans (HG.out.mono (by rw [World.size_alloc]; omega))).setCell (Nat.le_refl _) _).setCell (Nat.le_refl _) _).setCell (Nat.le_refl _) _).setCell (Nat.le_refl _) _).setCell (Nat.le_refl _) _
  | ok t =>
    go_wp2_with (go_at_call 21; (with_reducible refine (HC.out _ HE1.out).mono ?_); rintro e w1 ⟨hg, v, rfl, hV⟩; (obtain ⟨k, pk, n, N, q, ln, c, rfl⟩ := hV.shape); have HV := Lib.hid hV; have HG := Lib.hid hg; have hb := hb_below (hb_new _ _) hg (hb_lt (hb_new _ _)); have HB := Lib.hid hb; have zb := hb_lt hb; obtain ⟨x0, x1, x2, x3, x4, y0, y1, y2, y3, y4⟩ := box5 hb; clear hg hb hV)
    all_goals
      refine bodyPost_ret (v := .tuple #[tv k pk n N (.slice q ln c), .int .i64 0, .int .i64 0]) (res_typR rfl rfl rfl (set5w_box HB.out _ _ _ _ _)) rfl ⟨?_, _, rfl, ?_⟩
      · exact ((((((below_alloc w _).trans (HG.out.mono (by rw [World.size_alloc]; omega))).setCell (Nat.le_refl _) _).setCell (Nat.le_refl _) _).setCell (Nat.le_refl _) _).setCell (Nat.le_refl _) _).setCell (Nat.le_refl _) _
      · have h1 := HV.out.move (r := w.heap.size) (by rw [World.size_alloc]; omega) (((((Rg.refl w.heap.size w1).set 0 (.int .i64 k)).set 1 (.string pk)).set 2 (.string n)).set 3 (.int .i64 N) |>.set 4 (.slice q ln c))
        exact h1.up (by rw [World.size_alloc]; omega)
end Go.Proofs.YtlbnaddgdgbckaaGreatDoor
