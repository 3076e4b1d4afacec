/- Texts in a row: Ps Pt. -/
import Derived.Test.YtlbnaddgdgbckaaGreatDoorZ11
/- A let. -/
namespace Go.Proofs.YtlbnaddgdgbckaaGreatDoor
open Go.RowKit
set_option linter.unusedSimpArgs false
set_option linter.unusedVariables false
theorem run_append_zero {P : Program} {w : World} (t ty e : TypeId) (i : TypeInfo) (ht : P.underlying t = some (.slice e)) (hi : P.info? e = some i) (ao : Option Addr) (n cap : Nat) (hnc : n ≤ cap) (a : Addr) (c : Nat) :
    (Builtin.append_ #[t, t] ty #[.slice ao n cap, .slice (some a) 0 c]).run P w = .ok (.slice ao n cap) w := by
  cases ao <;> simp [Builtin.append_, run_underlying ht, sizeOf, typeInfo, hi, Builtin.lenOf, Builtin.firstCells, hnc, storeCells, loadCells, loadCellsFrom]
theorem run_append_zero0 {P : Program} {w : World} (t ty e : TypeId) (i : TypeInfo) (ht : P.underlying t = some (.slice e)) (hi : P.info? e = some i) (ao : Option Addr) (n cap : Nat) (hnc : n ≤ cap) :
    (Builtin.append_ #[t, t] ty #[.slice ao n cap, .slice none 0 0]).run P w = .ok (.slice ao n cap) w := by
  cases ao <;> simp [Builtin.append_, run_underlying ht, sizeOf, typeInfo, hi, Builtin.lenOf, Builtin.firstCells, hnc, storeCells, loadCells, loadCellsFrom]
theorem step_append37 {w w' : World} {ops : Array Oper} {o : Oper} {a : Act} {K : Act → World → Prop} {Q : Exit → Act → World → Prop} {E : Prop} (hgd : o.guard = none) (s x : Operand)
    (ho : o.op = .call { callee := .builtin .append, args := #[s, x], argTypes := #[37, 37] }) (hty : o.type = 37) {v vx v' : Value} (hs : a.eval s = v) (hx : a.eval x = vx)
    (hrun : (Builtin.append_ #[37, 37] 37 #[v, vx]).run Tryz.prog w = .ok v' w') (h : K (a.put o.dst v') w') : if Region.wanted o (yielded ops a.tmps) = true then Oper.wp Tryz.prog o a w K Q else E := by
  have hw : Region.wanted o (yielded ops a.tmps) = true := by simp [Region.wanted, hgd]
  rw [if_pos hw]
  unfold Oper.wp execOp
  simp only [ho, hty, resolve, invoke, builtin, Sem.run_bind, Sem.run_pure, Result.andThen_ok, List.map_toArray, List.map_cons, List.map_nil, hs, hx, hrun]
  exact h
/-- A row of two members, in a new block. -/
theorem RowG.two {base : Nat} {w : World} {k1 N1 k2 N2 : Int} {p1 n1 p2 n2 : ByteArray} {s1 s2 : Value} {t1 t2 : Tm} (h1 : termK.V (fun b => base ≤ b) w [.int .i64 k1, .string p1, .string n1, .int .i64 N1, s1] t1)
    (h2 : termK.V (fun b => base ≤ b) w [.int .i64 k2, .string p2, .string n2, .int .i64 N2, s2] t2) (hb : base ≤ w.heap.size) :
    RowG termK base (w.alloc (.cells #[.int .i64 k1, .string p1, .string n1, .int .i64 N1, s1, .int .i64 k2, .string p2, .string n2, .int .i64 N2, s2] 39)) (.slice (some ⟨w.heap.size, 0, none⟩) 2 2) [t1, t2] := by
  have hstep : ∀ b, base ≤ b → b < w.heap.size → (base ≤ b ∧ some b ≠ Value.ownBlock (.slice (some ⟨w.heap.size, 0, none⟩) 2 2)) ∧ (w.alloc (.cells #[.int .i64 k1, .string p1, .string n1, .int .i64 N1, s1, .int .i64 k2, .string p2, .string n2, .int .i64 N2, s2] 39)).heap[b]? = w.heap[b]? :=
    fun b hX hlt => ⟨⟨hX, fun e => by simp [Value.ownBlock] at e; omega⟩, Below.heap_alloc w _ b hlt⟩
  refine ⟨[[.int .i64 k1, .string p1, .string n1, .int .i64 N1, s1], [.int .i64 k2, .string p2, .string n2, .int .i64 N2, s2]], rfl, ⟨rfl, .inr ⟨_, 2, _, rfl, hb, heap_alloc_new w _, Nat.le_refl _, by decide, rfl, rfl⟩⟩, fun i x hx => ?_⟩
  match i, hx with
  | 0, hx =>
    obtain rfl : t1 = x := by simpa using hx
    exact ⟨_, rfl, termK.move hstep h1⟩
  | 1, hx =>
    obtain rfl : t2 = x := by simpa using hx
    exact ⟨_, rfl, termK.move hstep h2⟩
  | i + 2, hx => simp at hx
/-- An append of an annotation to a row of one's own. -/
theorem app_ann {W wa : World} {base : Nat} {q : Option Addr} {n c : Nat} {l : List Tm} (h : RowG termK base W (.slice q n c) l) (hbase : base ≤ W.heap.size) (hnc : n ≤ c) (va : Value) (ann : List Tm) (hA : LsV wa W va ann)
    (hA2 : SlG termK (fun b => base ≤ b ∧ some b ≠ Value.ownBlock (.slice q n c)) W va ann) (hn : l.length ≤ 10000) :
    ∃ q' c' w', (Builtin.append_ #[37, 37] 37 #[.slice q n c, va]).run Tryz.prog W = .ok (.slice q' (l ++ ann).length c') w' ∧ RowG termK base w' (.slice q' (l ++ ann).length c') (l ++ ann) ∧ W.grownBy w' (Value.ownBlock (.slice q n c)) := by
  obtain ⟨i0, hi, _⟩ := info_parts termK.inf.choose_spec.1
  have hlen : n = l.length := by obtain ⟨q2, c2, e⟩ := h.shape; cases e; rfl
  cases ann with
  | nil =>
    obtain ⟨⟨cl, hcl, ⟨_, ho⟩, _⟩, _⟩ := hA
    refine ⟨q, c, W, ?_, ?_, ⟨rfl, rfl, rfl, Nat.le_refl _, fun _ _ _ => rfl⟩⟩
    · rw [List.append_nil, ← hlen]
      rcases ho with ⟨rfl, _⟩ | ⟨g, cap, cur, rfl, _⟩
      · exact run_append_zero0 37 37 39 i0 Tryz.underlying37 hi q n c hnc
      · exact run_append_zero 37 37 39 i0 Tryz.underlying37 hi q n c hnc _ _
    · rw [List.append_nil, ← hlen]; exact h
  | cons x ann =>
    obtain ⟨qa, ca, rfl, hel⟩ := hA2
    obtain ⟨b, o, cs, rfl, _, _, _⟩ := hel 0 x rfl
    obtain ⟨v', w', h1, h2, h3, _⟩ := RowG.append2 (K := termK) (ms := x :: ann) h hbase (g := b) (o := o) (cc := ca) (fun i a ha => by
      obtain ⟨b', o', cs', e, hb', hc', hV'⟩ := hel i a ha
      obtain ⟨rfl, rfl⟩ : b = b' ∧ o = o' := by cases e; exact ⟨rfl, rfl⟩
      exact ⟨cs', hc', hV'⟩) (by omega) (by have := hA.2; omega)
    obtain ⟨vq, vc, rfl⟩ := h2.shape
    exact ⟨vq, vc, w', h1, h2, h3⟩
set_option maxRecDepth 100000 in
set_option maxHeartbeats 8000000 in
theorem let_any (r E g d : Nat) (hd : d + g = 41) (IH : ExprC r E g d) (ts : Ts) (w : World) (hR : Rd r E w ts) : Calls Tryz.prog 39 #[rp r, .int .i64 (d : Nat)] w (Got r E TmV w (letP E (exprP E g) (typP E g) ts)) := by
  have HI : RowKit.Hid (∀ ts W, Rd r E W ts → Calls Tryz.prog 23 #[rp r, .int .i64 (d : Nat)] W (Got r E TmV W (exprP E g ts))) := Lib.hid IH
  clear IH
  have HR0 := Lib.hid hR
  have hrl := hR.lt
  have HG0 : RowKit.Hid (Rg r w w) := Lib.hid (Rg.refl r w)
  obtain ⟨S, hS⟩ : ∃ S, S = letP E (exprP E g) (typP E g) ts := ⟨_, rfl⟩
  have HS0 := Lib.hid hS
  rw [← hS]
  unfold letP at HS0
  clear hR hS
  have HK := Lib.hid (fun W hW => skipKey_any r E kRec ts W hW)
  obtain ⟨N, tsN, hN⟩ : ∃ N tsN, (N, tsN) = (if isB 7 kRec ts then ((1 : Int), ts.tail) else (0, ts)) := ⟨_, _, rfl⟩
  have HSN : RowKit.Hid (S = letR E (exprP E g) (typP E g) N tsN) := Lib.hid (by
    have h := HS0.out
    cases hB : isB 7 kRec ts with
    | true => rw [hB, if_pos rfl] at h hN; cases hN; exact h
    | false => rw [hB, if_neg (by decide)] at h hN; cases hN; exact h)
  clear HS0
  go_enter Tryz.func39, Tryz.ntmps39
  go_upto_region 2 with (fail)
  have c0 := hb_alloc (hb_new w (.cells #[.int .i64 0, .string ⟨#[]⟩, .string ⟨#[]⟩, .int .i64 0, .slice none 0 0] 39)) (.cells #[.int .i64 28, .string ⟨#[]⟩, .string ⟨#[]⟩, .int .i64 0, .slice none 0 0] 39)
  have c1 := hb_new (w.alloc (.cells #[.int .i64 0, .string ⟨#[]⟩, .string ⟨#[]⟩, .int .i64 0, .slice none 0 0] 39)) (.cells #[.int .i64 28, .string ⟨#[]⟩, .string ⟨#[]⟩, .int .i64 0, .slice none 0 0] 39)
  rw [World.size_alloc] at c1
  have hr1 := (HR0.out.alloc (.cells #[.int .i64 0, .string ⟨#[]⟩, .string ⟨#[]⟩, .int .i64 0, .slice none 0 0] 39)).alloc (.cells #[.int .i64 28, .string ⟨#[]⟩, .string ⟨#[]⟩, .int .i64 0, .slice none 0 0] 39)
  have hg1 := (HG0.out.alloc (.cells #[.int .i64 0, .string ⟨#[]⟩, .string ⟨#[]⟩, .int .i64 0, .slice none 0 0] 39)).alloc (.cells #[.int .i64 28, .string ⟨#[]⟩, .string ⟨#[]⟩, .int .i64 0, .slice none 0 0] 39)
  generalize (w.alloc (.cells #[.int .i64 0, .string ⟨#[]⟩, .string ⟨#[]⟩, .int .i64 0, .slice none 0 0] 39)).alloc (.cells #[.int .i64 28, .string ⟨#[]⟩, .string ⟨#[]⟩, .int .i64 0, .slice none 0 0] 39) = W1 at *
  have HBx1 := Lib.hid c0
  have HBt1 := Lib.hid c1
  have HR1 := Lib.hid hr1
  have HG1 : RowKit.Hid (Rg r w W1) := Lib.hid hg1
  clear c0 c1 hr1 hg1
  cases hB : isB 7 kRec ts <;> rw [hB] at HK hN
  · rw [if_neg (by decide)] at hN
    obtain ⟨rfl, rfl⟩ : N = 0 ∧ tsN = ts := by cases hN; exact ⟨rfl, rfl⟩
    clear hN hB
    go_upto_region 4 with (go_at_call 37; (with_reducible refine (HK.out _ HR1.out).mono ?_); rintro e w2 ⟨rfl, hg, hr⟩; have HD2 := Lib.hid hg; have HG2 : RowKit.Hid (Rg r w w2) := Lib.hid (HG1.out.trans hg); have HR2 : RowKit.Hid (Rd r E w2 tsN) := Lib.hid hr; (have HBx2 := Lib.hid (HD2.out.keep HBx1.out (by omega))); (have HBt2 := Lib.hid (HD2.out.keep HBt1.out (by omega))); have zt2 := hb_lt HBt2.out; clear hg hr)
    have HS2 : RowKit.Hid (S = letR E (exprP E g) (typP E g) _ _) := HSN
    unfold letR at HS2
    go_upto_region 5 with ((go_at_call 66; (with_reducible refine (take_st r E 1 _ (by decide) _ (by first | exact HR2.out | exact HR2.out.alloc _ | exact (HR2.out.alloc _).alloc _ | exact ((HR2.out.alloc _).alloc _).alloc _ | exact HR2.out.upto (fun _ _ _ => rfl) | exact (HR2.out.alloc _).upto (fun _ _ _ => rfl))).mono ?_); rintro e w3 h3; rcases h3.step HS2.out with ⟨v3, a3, ts3, rfl, hV, hR, hg, hS, hx⟩ | ⟨y, rfl, hg, hSE⟩; rotate_left; (have hGE : Rg r w w3 := (by first | exact HG2.out.trans hg | exact (HG2.out.alloc _).trans hg | exact ((HG2.out.alloc _).alloc _).trans hg | exact (((HG2.out.alloc _).alloc _).alloc _).trans hg | exact HG2.out.drew.trans hg | exact (HG2.out.alloc _).drew.trans hg)); rotate_left; (obtain ⟨rfl, hst3⟩ := hV); (have HR3 := Lib.hid hR; have HG3 : RowKit.Hid (Rg r w w3) := Lib.hid (by first | exact HG2.out.trans hg | exact (HG2.out.alloc _).trans hg | exact ((HG2.out.alloc _).alloc _).trans hg | exact (((HG2.out.alloc _).alloc _).alloc _).trans hg | exact HG2.out.drew.trans hg | exact (HG2.out.alloc _).drew.trans hg); have HS3 := Lib.hid hS; have HX3 := Lib.hid hx; have HD3 := Lib.hid hg; clear hR hg hS hx); (have HBx3 := Lib.hid (HD3.out.keep HBx2.out (by omega))); (have HBt3 := Lib.hid (HD3.out.keep HBt2.out (by omega))); obtain ⟨m30, m31, m32, m33, m34, n30, n31, n32, n33, n34⟩ := box5 HBt3.out; have zt3 := hb_lt HBt3.out))
    all_goals first | exact ⟨rfl, hGE, rfl⟩ | exact ⟨rfl, hGE, by rw [hSE]⟩ | skip
    have hz3 := HD3.out.size
    have hz4 : (w3.setCell ⟨w.heap.size + 1, 2, none⟩ (.string a3)).heap.size = w3.heap.size := by simp [World.setCell]
    have c1 : (w3.setCell ⟨w.heap.size + 1, 2, none⟩ (.string a3)).heap[w.heap.size + 1]? = some (.cells #[.int .i64 28, .string ⟨#[]⟩, .string a3, .int .i64 _, .slice none 0 0] 39 (0, 0)) := hb_set_same HBt3.out 2 (.string a3)
    have c0 := hb_set_other HBx3.out (a := ⟨w.heap.size + 1, 2, none⟩) (.string a3) (by show w.heap.size ≠ w.heap.size + 1; omega)
    have hr4 := HR3.out.set_new (g := w.heap.size + 1) (by omega) 2 (.string a3)
    have hg4 := HG3.out.set_new (g := w.heap.size + 1) (by omega) 2 (.string a3)
    have HS4 := HS3
    generalize w3.setCell ⟨w.heap.size + 1, 2, none⟩ (.string a3) = W4 at *
    have HBt4 := Lib.hid c1
    have HBx4 := Lib.hid c0
    have HR4 := Lib.hid hr4
    have HG4 : RowKit.Hid (Rg r w W4) := Lib.hid hg4
    have zt4 := hb_lt c1
    clear c0 c1 hr4 hg4 hz3
    go_upto_region 9 with (first
      | (go_at_call 67; (with_reducible refine (annotation_any r E g d hd _ _ (by first | exact HR4.out | exact HR4.out.alloc _ | exact (HR4.out.alloc _).alloc _ | exact ((HR4.out.alloc _).alloc _).alloc _ | exact HR4.out.upto (fun _ _ _ => rfl) | exact (HR4.out.alloc _).upto (fun _ _ _ => rfl))).mono ?_); rintro e w5 h5; rcases h5.step HS4.out with ⟨v5, a5, ts5, rfl, hV, hR, hg, hS, hx⟩ | ⟨y, rfl, hg, hSE⟩; rotate_left; (have hGE : Rg r w w5 := (by first | exact HG4.out.trans hg | exact (HG4.out.alloc _).trans hg | exact ((HG4.out.alloc _).alloc _).trans hg | exact (((HG4.out.alloc _).alloc _).alloc _).trans hg | exact HG4.out.drew.trans hg | exact (HG4.out.alloc _).drew.trans hg)); rotate_left; (obtain ⟨q5, c5, hv⟩ := hV.1.shape; subst hv; have HV5 := Lib.hid hV; have HL5 := Lib.hid hV.2); (have HR5 := Lib.hid hR; have HG5 : RowKit.Hid (Rg r w w5) := Lib.hid (by first | exact HG4.out.trans hg | exact (HG4.out.alloc _).trans hg | exact ((HG4.out.alloc _).alloc _).trans hg | exact (((HG4.out.alloc _).alloc _).alloc _).trans hg | exact HG4.out.drew.trans hg | exact (HG4.out.alloc _).drew.trans hg); have HS5 := Lib.hid hS; have HX5 := Lib.hid hx; have HD5 := Lib.hid hg; clear hR hg hS hx hV); (have HBx5 := Lib.hid (HD5.out.keep HBx4.out (by omega))); (have HBt5 := Lib.hid (HD5.out.keep HBt4.out (by omega))); have hz5 := HD5.out.size)
      | (go_at_call 34; (with_reducible refine (sign_any r E sEq _ _ (by first | exact HR5.out | exact HR5.out.alloc _ | exact (HR5.out.alloc _).alloc _ | exact ((HR5.out.alloc _).alloc _).alloc _ | exact HR5.out.upto (fun _ _ _ => rfl) | exact (HR5.out.alloc _).upto (fun _ _ _ => rfl))).mono ?_); rintro e w6 h6; rcases h6.step HS5.out with ⟨v6, a6, ts6, rfl, hV, hR, hg, hS, hx⟩ | ⟨y, rfl, hg, hSE⟩; rotate_left; (have hGE : Rg r w w6 := (by first | exact HG5.out.trans hg | exact (HG5.out.alloc _).trans hg | exact ((HG5.out.alloc _).alloc _).trans hg | exact (((HG5.out.alloc _).alloc _).alloc _).trans hg | exact HG5.out.drew.trans hg | exact (HG5.out.alloc _).drew.trans hg)); rotate_left; (obtain rfl := hV); (have HR6 := Lib.hid hR; have HG6 : RowKit.Hid (Rg r w w6) := Lib.hid (by first | exact HG5.out.trans hg | exact (HG5.out.alloc _).trans hg | exact ((HG5.out.alloc _).alloc _).trans hg | exact (((HG5.out.alloc _).alloc _).alloc _).trans hg | exact HG5.out.drew.trans hg | exact (HG5.out.alloc _).drew.trans hg); have HS6 := Lib.hid hS; have HX6 := Lib.hid hx; have HD6 := Lib.hid hg; clear hR hg hS hx); (have HBx6 := Lib.hid (HD6.out.keep HBx5.out (by omega))); (have HBt6 := Lib.hid (HD6.out.keep HBt5.out (by omega))); have hz6 := HD6.out.size)
      | (go_at_call 23; (with_reducible refine (HI.out _ _ (by first | exact HR6.out | exact HR6.out.alloc _ | exact (HR6.out.alloc _).alloc _ | exact ((HR6.out.alloc _).alloc _).alloc _ | exact HR6.out.upto (fun _ _ _ => rfl) | exact (HR6.out.alloc _).upto (fun _ _ _ => rfl))).mono ?_); rintro e w7 h7; rcases h7.step HS6.out with ⟨v7, a7, ts7, rfl, hV, hR, hg, hS, hx⟩ | ⟨y, rfl, hg, hSE⟩; rotate_left; (have hGE : Rg r w w7 := (by first | exact HG6.out.trans hg | exact (HG6.out.alloc _).trans hg | exact ((HG6.out.alloc _).alloc _).trans hg | exact (((HG6.out.alloc _).alloc _).alloc _).trans hg | exact HG6.out.drew.trans hg | exact (HG6.out.alloc _).drew.trans hg)); rotate_left; (obtain ⟨k7, p7, n7, N7, q7, l7, c7, rfl⟩ := hV.shape; have HV7 := Lib.hid hV); (have HR7 := Lib.hid hR; have HG7 : RowKit.Hid (Rg r w w7) := Lib.hid (by first | exact HG6.out.trans hg | exact (HG6.out.alloc _).trans hg | exact ((HG6.out.alloc _).alloc _).trans hg | exact (((HG6.out.alloc _).alloc _).alloc _).trans hg | exact HG6.out.drew.trans hg | exact (HG6.out.alloc _).drew.trans hg); have HS7 := Lib.hid hS; have HX7 := Lib.hid hx; have HD7 := Lib.hid hg; clear hR hg hS hx hV); (have HBx7 := Lib.hid (HD7.out.keep HBx6.out (by omega))); (have HBt7 := Lib.hid (HD7.out.keep HBt6.out (by omega))); have hz7 := HD7.out.size)
      | (go_at_call 68; (with_reducible refine (key_any r E kIn _ _ (by first | exact HR7.out | exact HR7.out.alloc _ | exact (HR7.out.alloc _).alloc _ | exact ((HR7.out.alloc _).alloc _).alloc _ | exact HR7.out.upto (fun _ _ _ => rfl) | exact (HR7.out.alloc _).upto (fun _ _ _ => rfl))).mono ?_); rintro e w8 h8; rcases h8.step HS7.out with ⟨v8, a8, ts8, rfl, hV, hR, hg, hS, hx⟩ | ⟨y, rfl, hg, hSE⟩; rotate_left; (have hGE : Rg r w w8 := (by first | exact HG7.out.trans hg | exact (HG7.out.alloc _).trans hg | exact ((HG7.out.alloc _).alloc _).trans hg | exact (((HG7.out.alloc _).alloc _).alloc _).trans hg | exact HG7.out.drew.trans hg | exact (HG7.out.alloc _).drew.trans hg)); rotate_left; (obtain rfl := hV); (have HR8 := Lib.hid hR; have HG8 : RowKit.Hid (Rg r w w8) := Lib.hid (by first | exact HG7.out.trans hg | exact (HG7.out.alloc _).trans hg | exact ((HG7.out.alloc _).alloc _).trans hg | exact (((HG7.out.alloc _).alloc _).alloc _).trans hg | exact HG7.out.drew.trans hg | exact (HG7.out.alloc _).drew.trans hg); have HS8 := Lib.hid hS; have HX8 := Lib.hid hx; have HD8 := Lib.hid hg; clear hR hg hS hx); (have HBx8 := Lib.hid (HD8.out.keep (hb_alloc HBx7.out _) (by omega))); (have HBt8 := Lib.hid (HD8.out.keep (hb_alloc HBt7.out _) (by omega))); (have HBv8 := Lib.hid (HD8.out.keep (hb_new _ _) (by omega))); obtain ⟨s0, s1, s2, s3, s4, _⟩ := box5 HBv8.out; have sv := hb_lt HBv8.out; (have hz8 : w7.heap.size + 1 ≤ w8.heap.size := (by have h := HD8.out.size; rw [World.size_alloc] at h; exact h))))
    all_goals first | exact ⟨rfl, hGE, rfl⟩ | exact ⟨rfl, hGE, by rw [hSE]⟩ | skip
    refine wp_region_any (by kernel_rfl) ?_
    try (change wpAny _ _ _ _ _ _ _ (World.drew _))
    refine wpAny_take (i := 1) (v := ?_) rfl (by kernel_rfl) (by kernel_rfl) (by kernel_rfl) (fun _ _ _ h => h) (Or.inl ⟨by rfl, ?_⟩) ?_
    rotate_left
    · intro w
      go_simp
      first | done | with_reducible rfl
    refine wpAny_take (i := 2) (v := ?_) rfl (by kernel_rfl) (by kernel_rfl) (by kernel_rfl) (fun _ _ _ h => h) (Or.inl ⟨by rfl, ?_⟩) ?_
    rotate_left
    · intro w
      go_simp
      first | done | with_reducible rfl
    refine wpAny_take (i := 5) (v := ?_) rfl (by kernel_rfl) (by kernel_rfl) (by kernel_rfl) (fun _ _ _ h => h) (Or.inl ⟨by rfl, ?_⟩) ?_
    rotate_left
    · intro w
      go_simp
      first | done | with_reducible rfl
    refine wpAny_ready (rs := [0, 3]) (by kernel_rfl) (by simp) ?_
    refine AllReady.cons rfl (fun K hK => ?_) (AllReady.cons rfl (fun K hK => ?_) AllReady.nil)
    · go_simp
      refine hK _ _ ?_
      clear hK K
      refine wpAny_ready (rs := [3]) (by kernel_rfl) (by simp) ?_
      refine AllReady.cons rfl (fun K hK => ?_) AllReady.nil
      go_simp
      go_wp2_with ((go_at_call 23; (with_reducible refine (HI.out _ _ (by first | exact HR8.out | exact HR8.out.alloc _ | exact (HR8.out.alloc _).alloc _ | exact ((HR8.out.alloc _).alloc _).alloc _ | exact HR8.out.upto (fun _ _ _ => rfl) | exact (HR8.out.alloc _).upto (fun _ _ _ => rfl))).mono ?_); rintro e w9 h9; rcases h9.step HS8.out with ⟨v9, a9, ts9, rfl, hV, hR, hg, hS, hx⟩ | ⟨y, rfl, hg, hSE⟩; rotate_left; (have hGE : Rg r w w9 := (by first | exact HG8.out.trans hg | exact (HG8.out.alloc _).trans hg | exact ((HG8.out.alloc _).alloc _).trans hg | exact (((HG8.out.alloc _).alloc _).alloc _).trans hg | exact HG8.out.drew.trans hg | exact (HG8.out.alloc _).drew.trans hg); subst hSE; exact ⟨rfl, hGE, rfl⟩); (obtain ⟨k9, p9, n9, N9, q9, l9, c9, rfl⟩ := hV.shape; have HV9 := Lib.hid hV); (have HR9 := Lib.hid hR; have HG9 : RowKit.Hid (Rg r w w9) := Lib.hid (by first | exact HG8.out.trans hg | exact (HG8.out.alloc _).trans hg | exact ((HG8.out.alloc _).alloc _).trans hg | exact (((HG8.out.alloc _).alloc _).alloc _).trans hg | exact HG8.out.drew.trans hg | exact (HG8.out.alloc _).drew.trans hg); have HS9 := Lib.hid hS; have HX9 := Lib.hid hx; have HD9 := Lib.hid hg; clear hR hg hS hx hV); (have HBx9 := Lib.hid (HD9.out.keep HBx8.out (by omega))); (have HBt9 := Lib.hid (HD9.out.keep HBt8.out (by omega))); (have HBv9 := Lib.hid (HD9.out.keep HBv8.out (by omega))); obtain ⟨u0, u1, u2, u3, u4, _⟩ := box5 HBv9.out; have su := hb_lt HBv9.out; (have hz9 : w8.heap.size ≤ w9.heap.size := HD9.out.size); (have hv7 : termK.V (fun b => W4.heap.size ≤ b) w9 [.int .i64 k7, .string p7, .string n7, .int .i64 N7, .slice q7 l7 c7] a7 := (by obtain ⟨D, h⟩ := HV7.out; exact ⟨_, _, _, _, _, D, rfl, h.move fun b hb hl => by
                have hb' : w6.heap.size ≤ b := hb
                refine ⟨by omega, ?_⟩
                rw [HD9.out.same (by show b < w8.heap.size; omega) (by omega)]
                show w8.heap[b]? = _
                rw [HD8.out.same (by rw [World.size_alloc]; omega) (by omega), Below.heap_alloc _ _ _ hl]⟩)); (have hv9 : termK.V (fun b => W4.heap.size ≤ b) w9 [.int .i64 k9, .string p9, .string n9, .int .i64 N9, .slice q9 l9 c9] a9 := (by obtain ⟨D, h⟩ := HV9.out; exact ⟨_, _, _, _, _, D, rfl, h.move fun b hb hl => by
                have hb' : w8.heap.size ≤ b := hb
                exact ⟨by omega, rfl⟩⟩)); (have hrow9 := RowG.two hv7 hv9 (by omega)); (have hst9 : ∀ b, W4.heap.size ≤ b → b < w5.heap.size → (w9.alloc (.cells #[.int .i64 k7, .string p7, .string n7, .int .i64 N7, .slice q7 l7 c7, .int .i64 k9, .string p9, .string n9, .int .i64 N9, .slice q9 l9 c9] 39)).heap[b]? = w5.heap[b]? := (by
                intro b hb hl
                rw [Below.heap_alloc _ _ _ (by omega), HD9.out.same (by show b < w8.heap.size; omega) (by omega)]
                show w8.heap[b]? = _
                rw [HD8.out.same (by rw [World.size_alloc]; omega) (by omega), Below.heap_alloc _ _ _ (by omega), HD7.out.same (by omega) (by omega), HD6.out.same hl (by omega)])); (obtain ⟨q10, c10, w10, hu, hrow10, hgr10⟩ := app_ann (wa := W4) hrow9 (by rw [World.size_alloc]; omega) (Nat.le_refl _) (.slice q5 a5.length c5) a5 ⟨HV5.out.1.move hst9, HV5.out.2⟩ (HV5.out.sl.move fun b hb hl => ⟨⟨hb, fun e => by have e2 : some b = some w9.heap.size := e; have e3 := Option.some.inj e2; have hl2 : b < w5.heap.size := hl; omega⟩, hst9 b hb hl⟩) (by simp)); (have hlen10 : ([a7, a9] ++ a5).length = a5.length + 2 := (by simp)); rw [hlen10] at hu hrow10; (have hgo : ∀ k, Value.ownBlock (.slice (some ⟨w9.heap.size, 0, none⟩) 2 2) = some k → k = w9.heap.size := fun k hk => (by cases hk; rfl)); (have HBx10 := Lib.hid (hb_grown (hb_alloc HBx9.out _) hgr10 (fun e => by have := hgo _ e.symm; omega))); (have HBt10 := Lib.hid (hb_grown (hb_alloc HBt9.out _) hgr10 (fun e => by have := hgo _ e.symm; omega))); (have HR10 : RowKit.Hid (Rd r E w10 ts9) := Lib.hid ((HR9.out.alloc _).grown hgr10 (fun k hk => by have := hgo k hk; omega))); (have HG10 : RowKit.Hid (Rg r w w10) := Lib.hid ((HG9.out.alloc _).grown hgr10 (fun k hk => by have := hgo k hk; omega))); (have HROW10 := Lib.hid hrow10); (have hz10 : w9.heap.size < w10.heap.size := (by have h := hgr10.size; rw [World.size_alloc] at h; omega)); clear hv7 hv9 hrow9 hst9 hrow10 hgr10 hlen10 hgo; obtain ⟨e0, e1, e2, e3, e4, f0, f1, f2, f3, f4⟩ := box5 HBt10.out; obtain ⟨g0, g1, g2, g3, g4, i0, i1, i2, i3, i4⟩ := box5 HBx10.out; have zt10 := hb_lt HBt10.out; have zx10 := hb_lt HBx10.out))
      try (refine hK _ _ ?_; clear hK K)
      refine wpAny_ready (rs := [4]) (by kernel_rfl) (by simp) ?_
      refine AllReady.cons rfl (fun K hK => ?_) AllReady.nil
      go_simp
      refine hK _ _ ?_
      clear hK K
      refine wpAny_ready (rs := [6]) (by kernel_rfl) (by simp) ?_
      refine AllReady.cons rfl (fun K hK => ?_) AllReady.nil
      refine step_append37 rfl _ _ rfl rfl rfl rfl hu ?_
      refine hK _ _ ?_
      clear hK K
      refine wpAny_take (i := 7) (v := ?_) rfl (by kernel_rfl) (by kernel_rfl) (by kernel_rfl) (fun _ _ _ h => h) (Or.inl ⟨by rfl, ?_⟩) ?_
      rotate_left
      · intro w
        go_simp
        first | done | with_reducible rfl
      refine wpAny_ready (rs := [8]) (by kernel_rfl) (by simp) ?_
      refine AllReady.cons rfl (fun K hK => ?_) AllReady.nil
      go_simp
      refine hK _ _ ?_
      clear hK K
      refine wpAny_done (by kernel_rfl) ?_ _
      go_wp2
      exact fin5 (w0 := w) (W := w10.setCell ⟨w.heap.size + 1, 4, none⟩ (.slice q10 (a5.length + 2) c10)) rfl rfl rfl (hb_set_other HBx10.out (a := ⟨w.heap.size + 1, 4, none⟩) _ (by show w.heap.size ≠ w.heap.size + 1; omega)) (Nat.le_refl _) (HG10.out.set_new (g := w.heap.size + 1) (by omega) 4 _) hrl (HR10.out.set_new (g := w.heap.size + 1) (by omega) 4 _) HS9.out W4.heap.size (by omega) (by omega) (kids_of (HROW10.out.all fun b hb hl => Below.heap_setCell _ _ _ _ (by show b ≠ w.heap.size + 1; omega)) (by have := HV5.out.2; simp; omega) (by decide) hst3)
    · go_simp
      go_wp2_with ((go_at_call 23; (with_reducible refine (HI.out _ _ (by first | exact HR8.out | exact HR8.out.alloc _ | exact (HR8.out.alloc _).alloc _ | exact ((HR8.out.alloc _).alloc _).alloc _ | exact HR8.out.upto (fun _ _ _ => rfl) | exact (HR8.out.alloc _).upto (fun _ _ _ => rfl))).mono ?_); rintro e w9 h9; rcases h9.step HS8.out with ⟨v9, a9, ts9, rfl, hV, hR, hg, hS, hx⟩ | ⟨y, rfl, hg, hSE⟩; rotate_left; (have hGE : Rg r w w9 := (by first | exact HG8.out.trans hg | exact (HG8.out.alloc _).trans hg | exact ((HG8.out.alloc _).alloc _).trans hg | exact (((HG8.out.alloc _).alloc _).alloc _).trans hg | exact HG8.out.drew.trans hg | exact (HG8.out.alloc _).drew.trans hg); subst hSE; exact ⟨rfl, hGE, rfl⟩); (obtain ⟨k9, p9, n9, N9, q9, l9, c9, rfl⟩ := hV.shape; have HV9 := Lib.hid hV); (have HR9 := Lib.hid hR; have HG9 : RowKit.Hid (Rg r w w9) := Lib.hid (by first | exact HG8.out.trans hg | exact (HG8.out.alloc _).trans hg | exact ((HG8.out.alloc _).alloc _).trans hg | exact (((HG8.out.alloc _).alloc _).alloc _).trans hg | exact HG8.out.drew.trans hg | exact (HG8.out.alloc _).drew.trans hg); have HS9 := Lib.hid hS; have HX9 := Lib.hid hx; have HD9 := Lib.hid hg; clear hR hg hS hx hV); (have HBx9 := Lib.hid (HD9.out.keep HBx8.out (by omega))); (have HBt9 := Lib.hid (HD9.out.keep HBt8.out (by omega))); (have HBv9 := Lib.hid (HD9.out.keep HBv8.out (by omega))); obtain ⟨u0, u1, u2, u3, u4, _⟩ := box5 HBv9.out; have su := hb_lt HBv9.out; (have hz9 : w8.heap.size ≤ w9.heap.size := HD9.out.size); (have hv7 : termK.V (fun b => W4.heap.size ≤ b) w9 [.int .i64 k7, .string p7, .string n7, .int .i64 N7, .slice q7 l7 c7] a7 := (by obtain ⟨D, h⟩ := HV7.out; exact ⟨_, _, _, _, _, D, rfl, h.move fun b hb hl => by
                have hb' : w6.heap.size ≤ b := hb
                refine ⟨by omega, ?_⟩
                rw [HD9.out.same (by show b < w8.heap.size; omega) (by omega)]
                show w8.heap[b]? = _
                rw [HD8.out.same (by rw [World.size_alloc]; omega) (by omega), Below.heap_alloc _ _ _ hl]⟩)); (have hv9 : termK.V (fun b => W4.heap.size ≤ b) w9 [.int .i64 k9, .string p9, .string n9, .int .i64 N9, .slice q9 l9 c9] a9 := (by obtain ⟨D, h⟩ := HV9.out; exact ⟨_, _, _, _, _, D, rfl, h.move fun b hb hl => by
                have hb' : w8.heap.size ≤ b := hb
                exact ⟨by omega, rfl⟩⟩)); (have hrow9 := RowG.two hv7 hv9 (by omega)); (have hst9 : ∀ b, W4.heap.size ≤ b → b < w5.heap.size → (w9.alloc (.cells #[.int .i64 k7, .string p7, .string n7, .int .i64 N7, .slice q7 l7 c7, .int .i64 k9, .string p9, .string n9, .int .i64 N9, .slice q9 l9 c9] 39)).heap[b]? = w5.heap[b]? := (by
                intro b hb hl
                rw [Below.heap_alloc _ _ _ (by omega), HD9.out.same (by show b < w8.heap.size; omega) (by omega)]
                show w8.heap[b]? = _
                rw [HD8.out.same (by rw [World.size_alloc]; omega) (by omega), Below.heap_alloc _ _ _ (by omega), HD7.out.same (by omega) (by omega), HD6.out.same hl (by omega)])); (obtain ⟨q10, c10, w10, hu, hrow10, hgr10⟩ := app_ann (wa := W4) hrow9 (by rw [World.size_alloc]; omega) (Nat.le_refl _) (.slice q5 a5.length c5) a5 ⟨HV5.out.1.move hst9, HV5.out.2⟩ (HV5.out.sl.move fun b hb hl => ⟨⟨hb, fun e => by have e2 : some b = some w9.heap.size := e; have e3 := Option.some.inj e2; have hl2 : b < w5.heap.size := hl; omega⟩, hst9 b hb hl⟩) (by simp)); (have hlen10 : ([a7, a9] ++ a5).length = a5.length + 2 := (by simp)); rw [hlen10] at hu hrow10; (have hgo : ∀ k, Value.ownBlock (.slice (some ⟨w9.heap.size, 0, none⟩) 2 2) = some k → k = w9.heap.size := fun k hk => (by cases hk; rfl)); (have HBx10 := Lib.hid (hb_grown (hb_alloc HBx9.out _) hgr10 (fun e => by have := hgo _ e.symm; omega))); (have HBt10 := Lib.hid (hb_grown (hb_alloc HBt9.out _) hgr10 (fun e => by have := hgo _ e.symm; omega))); (have HR10 : RowKit.Hid (Rd r E w10 ts9) := Lib.hid ((HR9.out.alloc _).grown hgr10 (fun k hk => by have := hgo k hk; omega))); (have HG10 : RowKit.Hid (Rg r w w10) := Lib.hid ((HG9.out.alloc _).grown hgr10 (fun k hk => by have := hgo k hk; omega))); (have HROW10 := Lib.hid hrow10); (have hz10 : w9.heap.size < w10.heap.size := (by have h := hgr10.size; rw [World.size_alloc] at h; omega)); clear hv7 hv9 hrow9 hst9 hrow10 hgr10 hlen10 hgo; obtain ⟨e0, e1, e2, e3, e4, f0, f1, f2, f3, f4⟩ := box5 HBt10.out; obtain ⟨g0, g1, g2, g3, g4, i0, i1, i2, i3, i4⟩ := box5 HBx10.out; have zt10 := hb_lt HBt10.out; have zx10 := hb_lt HBx10.out))
      try (refine hK _ _ ?_; clear hK K)
      refine wpAny_ready (rs := [0]) (by kernel_rfl) (by simp) ?_
      refine AllReady.cons rfl (fun K hK => ?_) AllReady.nil
      go_simp
      refine hK _ _ ?_
      clear hK K
      refine wpAny_ready (rs := [4]) (by kernel_rfl) (by simp) ?_
      refine AllReady.cons rfl (fun K hK => ?_) AllReady.nil
      go_simp
      refine hK _ _ ?_
      clear hK K
      refine wpAny_ready (rs := [6]) (by kernel_rfl) (by simp) ?_
      refine AllReady.cons rfl (fun K hK => ?_) AllReady.nil
      refine step_append37 rfl _ _ rfl rfl rfl rfl hu ?_
      refine hK _ _ ?_
      clear hK K
      refine wpAny_take (i := 7) (v := ?_) rfl (by kernel_rfl) (by kernel_rfl) (by kernel_rfl) (fun _ _ _ h => h) (Or.inl ⟨by rfl, ?_⟩) ?_
      rotate_left
      · intro w
        go_simp
        first | done | with_reducible rfl
      refine wpAny_ready (rs := [8]) (by kernel_rfl) (by simp) ?_
      refine AllReady.cons rfl (fun K hK => ?_) AllReady.nil
      go_simp
      refine hK _ _ ?_
      clear hK K
      refine wpAny_done (by kernel_rfl) ?_ _
      go_wp2
      exact fin5 (w0 := w) (W := w10.setCell ⟨w.heap.size + 1, 4, none⟩ (.slice q10 (a5.length + 2) c10)) rfl rfl rfl (hb_set_other HBx10.out (a := ⟨w.heap.size + 1, 4, none⟩) _ (by show w.heap.size ≠ w.heap.size + 1; omega)) (Nat.le_refl _) (HG10.out.set_new (g := w.heap.size + 1) (by omega) 4 _) hrl (HR10.out.set_new (g := w.heap.size + 1) (by omega) 4 _) HS9.out W4.heap.size (by omega) (by omega) (kids_of (HROW10.out.all fun b hb hl => Below.heap_setCell _ _ _ _ (by show b ≠ w.heap.size + 1; omega)) (by have := HV5.out.2; simp; omega) (by decide) hst3)
  · rw [if_pos rfl] at hN
    obtain ⟨rfl, rfl⟩ : N = 1 ∧ tsN = ts.tail := by cases hN; exact ⟨rfl, rfl⟩
    clear hN hB
    go_upto_region 4 with (go_at_call 37; (with_reducible refine (HK.out _ HR1.out).mono ?_); rintro e w2 ⟨rfl, hg, hr⟩; have HD2 := Lib.hid hg; have HG2 : RowKit.Hid (Rg r w w2) := Lib.hid (HG1.out.trans hg); have HR2 : RowKit.Hid (Rd r E w2 ts.tail) := Lib.hid hr; (have HBx2 := Lib.hid (HD2.out.keep HBx1.out (by omega))); (have HBt2 := Lib.hid (HD2.out.keep HBt1.out (by omega))); obtain ⟨m20, m21, m22, m23, m24, n20, n21, n22, n23, n24⟩ := box5 HBt2.out; have zt2 := hb_lt HBt2.out; clear hg hr)
    have hz4 : (w2.setCell ⟨w.heap.size + 1, 3, none⟩ (.int .i64 1)).heap.size = w2.heap.size := by simp [World.setCell]
    have c1 : (w2.setCell ⟨w.heap.size + 1, 3, none⟩ (.int .i64 1)).heap[w.heap.size + 1]? = some (.cells #[.int .i64 28, .string ⟨#[]⟩, .string ⟨#[]⟩, .int .i64 1, .slice none 0 0] 39 (0, 0)) := hb_set_same HBt2.out 3 (.int .i64 1)
    have c0 := hb_set_other HBx2.out (a := ⟨w.heap.size + 1, 3, none⟩) (.int .i64 1) (by show w.heap.size ≠ w.heap.size + 1; omega)
    have hr4 := HR2.out.set_new (g := w.heap.size + 1) (by omega) 3 (.int .i64 1)
    have hg4 := HG2.out.set_new (g := w.heap.size + 1) (by omega) 3 (.int .i64 1)
    clear HR2 HG2 HBt2 HBx2 HD2
    generalize w2.setCell ⟨w.heap.size + 1, 3, none⟩ (.int .i64 1) = w2' at *
    have HBt2 := Lib.hid c1
    have HBx2 := Lib.hid c0
    have HR2 := Lib.hid hr4
    have HG2 : RowKit.Hid (Rg r w w2') := Lib.hid hg4
    have zt2 := hb_lt c1
    clear c0 c1 hr4 hg4 hz4
    have HS2 : RowKit.Hid (S = letR E (exprP E g) (typP E g) _ _) := HSN
    unfold letR at HS2
    go_upto_region 5 with ((go_at_call 66; (with_reducible refine (take_st r E 1 _ (by decide) _ (by first | exact HR2.out | exact HR2.out.alloc _ | exact (HR2.out.alloc _).alloc _ | exact ((HR2.out.alloc _).alloc _).alloc _ | exact HR2.out.upto (fun _ _ _ => rfl) | exact (HR2.out.alloc _).upto (fun _ _ _ => rfl))).mono ?_); rintro e w3 h3; rcases h3.step HS2.out with ⟨v3, a3, ts3, rfl, hV, hR, hg, hS, hx⟩ | ⟨y, rfl, hg, hSE⟩; rotate_left; (have hGE : Rg r w w3 := (by first | exact HG2.out.trans hg | exact (HG2.out.alloc _).trans hg | exact ((HG2.out.alloc _).alloc _).trans hg | exact (((HG2.out.alloc _).alloc _).alloc _).trans hg | exact HG2.out.drew.trans hg | exact (HG2.out.alloc _).drew.trans hg)); rotate_left; (obtain ⟨rfl, hst3⟩ := hV); (have HR3 := Lib.hid hR; have HG3 : RowKit.Hid (Rg r w w3) := Lib.hid (by first | exact HG2.out.trans hg | exact (HG2.out.alloc _).trans hg | exact ((HG2.out.alloc _).alloc _).trans hg | exact (((HG2.out.alloc _).alloc _).alloc _).trans hg | exact HG2.out.drew.trans hg | exact (HG2.out.alloc _).drew.trans hg); have HS3 := Lib.hid hS; have HX3 := Lib.hid hx; have HD3 := Lib.hid hg; clear hR hg hS hx); (have HBx3 := Lib.hid (HD3.out.keep HBx2.out (by omega))); (have HBt3 := Lib.hid (HD3.out.keep HBt2.out (by omega))); obtain ⟨m30, m31, m32, m33, m34, n30, n31, n32, n33, n34⟩ := box5 HBt3.out; have zt3 := hb_lt HBt3.out))
    all_goals first | exact ⟨rfl, hGE, rfl⟩ | exact ⟨rfl, hGE, by rw [hSE]⟩ | skip
    have hz3 := HD3.out.size
    have hz4 : (w3.setCell ⟨w.heap.size + 1, 2, none⟩ (.string a3)).heap.size = w3.heap.size := by simp [World.setCell]
    have c1 : (w3.setCell ⟨w.heap.size + 1, 2, none⟩ (.string a3)).heap[w.heap.size + 1]? = some (.cells #[.int .i64 28, .string ⟨#[]⟩, .string a3, .int .i64 _, .slice none 0 0] 39 (0, 0)) := hb_set_same HBt3.out 2 (.string a3)
    have c0 := hb_set_other HBx3.out (a := ⟨w.heap.size + 1, 2, none⟩) (.string a3) (by show w.heap.size ≠ w.heap.size + 1; omega)
    have hr4 := HR3.out.set_new (g := w.heap.size + 1) (by omega) 2 (.string a3)
    have hg4 := HG3.out.set_new (g := w.heap.size + 1) (by omega) 2 (.string a3)
    have HS4 := HS3
    generalize w3.setCell ⟨w.heap.size + 1, 2, none⟩ (.string a3) = W4 at *
    have HBt4 := Lib.hid c1
    have HBx4 := Lib.hid c0
    have HR4 := Lib.hid hr4
    have HG4 : RowKit.Hid (Rg r w W4) := Lib.hid hg4
    have zt4 := hb_lt c1
    clear c0 c1 hr4 hg4 hz3
    go_upto_region 9 with (first
      | (go_at_call 67; (with_reducible refine (annotation_any r E g d hd _ _ (by first | exact HR4.out | exact HR4.out.alloc _ | exact (HR4.out.alloc _).alloc _ | exact ((HR4.out.alloc _).alloc _).alloc _ | exact HR4.out.upto (fun _ _ _ => rfl) | exact (HR4.out.alloc _).upto (fun _ _ _ => rfl))).mono ?_); rintro e w5 h5; rcases h5.step HS4.out with ⟨v5, a5, ts5, rfl, hV, hR, hg, hS, hx⟩ | ⟨y, rfl, hg, hSE⟩; rotate_left; (have hGE : Rg r w w5 := (by first | exact HG4.out.trans hg | exact (HG4.out.alloc _).trans hg | exact ((HG4.out.alloc _).alloc _).trans hg | exact (((HG4.out.alloc _).alloc _).alloc _).trans hg | exact HG4.out.drew.trans hg | exact (HG4.out.alloc _).drew.trans hg)); rotate_left; (obtain ⟨q5, c5, hv⟩ := hV.1.shape; subst hv; have HV5 := Lib.hid hV; have HL5 := Lib.hid hV.2); (have HR5 := Lib.hid hR; have HG5 : RowKit.Hid (Rg r w w5) := Lib.hid (by first | exact HG4.out.trans hg | exact (HG4.out.alloc _).trans hg | exact ((HG4.out.alloc _).alloc _).trans hg | exact (((HG4.out.alloc _).alloc _).alloc _).trans hg | exact HG4.out.drew.trans hg | exact (HG4.out.alloc _).drew.trans hg); have HS5 := Lib.hid hS; have HX5 := Lib.hid hx; have HD5 := Lib.hid hg; clear hR hg hS hx hV); (have HBx5 := Lib.hid (HD5.out.keep HBx4.out (by omega))); (have HBt5 := Lib.hid (HD5.out.keep HBt4.out (by omega))); have hz5 := HD5.out.size)
      | (go_at_call 34; (with_reducible refine (sign_any r E sEq _ _ (by first | exact HR5.out | exact HR5.out.alloc _ | exact (HR5.out.alloc _).alloc _ | exact ((HR5.out.alloc _).alloc _).alloc _ | exact HR5.out.upto (fun _ _ _ => rfl) | exact (HR5.out.alloc _).upto (fun _ _ _ => rfl))).mono ?_); rintro e w6 h6; rcases h6.step HS5.out with ⟨v6, a6, ts6, rfl, hV, hR, hg, hS, hx⟩ | ⟨y, rfl, hg, hSE⟩; rotate_left; (have hGE : Rg r w w6 := (by first | exact HG5.out.trans hg | exact (HG5.out.alloc _).trans hg | exact ((HG5.out.alloc _).alloc _).trans hg | exact (((HG5.out.alloc _).alloc _).alloc _).trans hg | exact HG5.out.drew.trans hg | exact (HG5.out.alloc _).drew.trans hg)); rotate_left; (obtain rfl := hV); (have HR6 := Lib.hid hR; have HG6 : RowKit.Hid (Rg r w w6) := Lib.hid (by first | exact HG5.out.trans hg | exact (HG5.out.alloc _).trans hg | exact ((HG5.out.alloc _).alloc _).trans hg | exact (((HG5.out.alloc _).alloc _).alloc _).trans hg | exact HG5.out.drew.trans hg | exact (HG5.out.alloc _).drew.trans hg); have HS6 := Lib.hid hS; have HX6 := Lib.hid hx; have HD6 := Lib.hid hg; clear hR hg hS hx); (have HBx6 := Lib.hid (HD6.out.keep HBx5.out (by omega))); (have HBt6 := Lib.hid (HD6.out.keep HBt5.out (by omega))); have hz6 := HD6.out.size)
      | (go_at_call 23; (with_reducible refine (HI.out _ _ (by first | exact HR6.out | exact HR6.out.alloc _ | exact (HR6.out.alloc _).alloc _ | exact ((HR6.out.alloc _).alloc _).alloc _ | exact HR6.out.upto (fun _ _ _ => rfl) | exact (HR6.out.alloc _).upto (fun _ _ _ => rfl))).mono ?_); rintro e w7 h7; rcases h7.step HS6.out with ⟨v7, a7, ts7, rfl, hV, hR, hg, hS, hx⟩ | ⟨y, rfl, hg, hSE⟩; rotate_left; (have hGE : Rg r w w7 := (by first | exact HG6.out.trans hg | exact (HG6.out.alloc _).trans hg | exact ((HG6.out.alloc _).alloc _).trans hg | exact (((HG6.out.alloc _).alloc _).alloc _).trans hg | exact HG6.out.drew.trans hg | exact (HG6.out.alloc _).drew.trans hg)); rotate_left; (obtain ⟨k7, p7, n7, N7, q7, l7, c7, rfl⟩ := hV.shape; have HV7 := Lib.hid hV); (have HR7 := Lib.hid hR; have HG7 : RowKit.Hid (Rg r w w7) := Lib.hid (by first | exact HG6.out.trans hg | exact (HG6.out.alloc _).trans hg | exact ((HG6.out.alloc _).alloc _).trans hg | exact (((HG6.out.alloc _).alloc _).alloc _).trans hg | exact HG6.out.drew.trans hg | exact (HG6.out.alloc _).drew.trans hg); have HS7 := Lib.hid hS; have HX7 := Lib.hid hx; have HD7 := Lib.hid hg; clear hR hg hS hx hV); (have HBx7 := Lib.hid (HD7.out.keep HBx6.out (by omega))); (have HBt7 := Lib.hid (HD7.out.keep HBt6.out (by omega))); have hz7 := HD7.out.size)
      | (go_at_call 68; (with_reducible refine (key_any r E kIn _ _ (by first | exact HR7.out | exact HR7.out.alloc _ | exact (HR7.out.alloc _).alloc _ | exact ((HR7.out.alloc _).alloc _).alloc _ | exact HR7.out.upto (fun _ _ _ => rfl) | exact (HR7.out.alloc _).upto (fun _ _ _ => rfl))).mono ?_); rintro e w8 h8; rcases h8.step HS7.out with ⟨v8, a8, ts8, rfl, hV, hR, hg, hS, hx⟩ | ⟨y, rfl, hg, hSE⟩; rotate_left; (have hGE : Rg r w w8 := (by first | exact HG7.out.trans hg | exact (HG7.out.alloc _).trans hg | exact ((HG7.out.alloc _).alloc _).trans hg | exact (((HG7.out.alloc _).alloc _).alloc _).trans hg | exact HG7.out.drew.trans hg | exact (HG7.out.alloc _).drew.trans hg)); rotate_left; (obtain rfl := hV); (have HR8 := Lib.hid hR; have HG8 : RowKit.Hid (Rg r w w8) := Lib.hid (by first | exact HG7.out.trans hg | exact (HG7.out.alloc _).trans hg | exact ((HG7.out.alloc _).alloc _).trans hg | exact (((HG7.out.alloc _).alloc _).alloc _).trans hg | exact HG7.out.drew.trans hg | exact (HG7.out.alloc _).drew.trans hg); have HS8 := Lib.hid hS; have HX8 := Lib.hid hx; have HD8 := Lib.hid hg; clear hR hg hS hx); (have HBx8 := Lib.hid (HD8.out.keep (hb_alloc HBx7.out _) (by omega))); (have HBt8 := Lib.hid (HD8.out.keep (hb_alloc HBt7.out _) (by omega))); (have HBv8 := Lib.hid (HD8.out.keep (hb_new _ _) (by omega))); obtain ⟨s0, s1, s2, s3, s4, _⟩ := box5 HBv8.out; have sv := hb_lt HBv8.out; (have hz8 : w7.heap.size + 1 ≤ w8.heap.size := (by have h := HD8.out.size; rw [World.size_alloc] at h; exact h))))
    all_goals first | exact ⟨rfl, hGE, rfl⟩ | exact ⟨rfl, hGE, by rw [hSE]⟩ | skip
    refine wp_region_any (by kernel_rfl) ?_
    try (change wpAny _ _ _ _ _ _ _ (World.drew _))
    refine wpAny_take (i := 1) (v := ?_) rfl (by kernel_rfl) (by kernel_rfl) (by kernel_rfl) (fun _ _ _ h => h) (Or.inl ⟨by rfl, ?_⟩) ?_
    rotate_left
    · intro w
      go_simp
      first | done | with_reducible rfl
    refine wpAny_take (i := 2) (v := ?_) rfl (by kernel_rfl) (by kernel_rfl) (by kernel_rfl) (fun _ _ _ h => h) (Or.inl ⟨by rfl, ?_⟩) ?_
    rotate_left
    · intro w
      go_simp
      first | done | with_reducible rfl
    refine wpAny_take (i := 5) (v := ?_) rfl (by kernel_rfl) (by kernel_rfl) (by kernel_rfl) (fun _ _ _ h => h) (Or.inl ⟨by rfl, ?_⟩) ?_
    rotate_left
    · intro w
      go_simp
      first | done | with_reducible rfl
    refine wpAny_ready (rs := [0, 3]) (by kernel_rfl) (by simp) ?_
    refine AllReady.cons rfl (fun K hK => ?_) (AllReady.cons rfl (fun K hK => ?_) AllReady.nil)
    · go_simp
      refine hK _ _ ?_
      clear hK K
      refine wpAny_ready (rs := [3]) (by kernel_rfl) (by simp) ?_
      refine AllReady.cons rfl (fun K hK => ?_) AllReady.nil
      go_simp
      go_wp2_with ((go_at_call 23; (with_reducible refine (HI.out _ _ (by first | exact HR8.out | exact HR8.out.alloc _ | exact (HR8.out.alloc _).alloc _ | exact ((HR8.out.alloc _).alloc _).alloc _ | exact HR8.out.upto (fun _ _ _ => rfl) | exact (HR8.out.alloc _).upto (fun _ _ _ => rfl))).mono ?_); rintro e w9 h9; rcases h9.step HS8.out with ⟨v9, a9, ts9, rfl, hV, hR, hg, hS, hx⟩ | ⟨y, rfl, hg, hSE⟩; rotate_left; (have hGE : Rg r w w9 := (by first | exact HG8.out.trans hg | exact (HG8.out.alloc _).trans hg | exact ((HG8.out.alloc _).alloc _).trans hg | exact (((HG8.out.alloc _).alloc _).alloc _).trans hg | exact HG8.out.drew.trans hg | exact (HG8.out.alloc _).drew.trans hg); subst hSE; exact ⟨rfl, hGE, rfl⟩); (obtain ⟨k9, p9, n9, N9, q9, l9, c9, rfl⟩ := hV.shape; have HV9 := Lib.hid hV); (have HR9 := Lib.hid hR; have HG9 : RowKit.Hid (Rg r w w9) := Lib.hid (by first | exact HG8.out.trans hg | exact (HG8.out.alloc _).trans hg | exact ((HG8.out.alloc _).alloc _).trans hg | exact (((HG8.out.alloc _).alloc _).alloc _).trans hg | exact HG8.out.drew.trans hg | exact (HG8.out.alloc _).drew.trans hg); have HS9 := Lib.hid hS; have HX9 := Lib.hid hx; have HD9 := Lib.hid hg; clear hR hg hS hx hV); (have HBx9 := Lib.hid (HD9.out.keep HBx8.out (by omega))); (have HBt9 := Lib.hid (HD9.out.keep HBt8.out (by omega))); (have HBv9 := Lib.hid (HD9.out.keep HBv8.out (by omega))); obtain ⟨u0, u1, u2, u3, u4, _⟩ := box5 HBv9.out; have su := hb_lt HBv9.out; (have hz9 : w8.heap.size ≤ w9.heap.size := HD9.out.size); (have hv7 : termK.V (fun b => W4.heap.size ≤ b) w9 [.int .i64 k7, .string p7, .string n7, .int .i64 N7, .slice q7 l7 c7] a7 := (by obtain ⟨D, h⟩ := HV7.out; exact ⟨_, _, _, _, _, D, rfl, h.move fun b hb hl => by
                have hb' : w6.heap.size ≤ b := hb
                refine ⟨by omega, ?_⟩
                rw [HD9.out.same (by show b < w8.heap.size; omega) (by omega)]
                show w8.heap[b]? = _
                rw [HD8.out.same (by rw [World.size_alloc]; omega) (by omega), Below.heap_alloc _ _ _ hl]⟩)); (have hv9 : termK.V (fun b => W4.heap.size ≤ b) w9 [.int .i64 k9, .string p9, .string n9, .int .i64 N9, .slice q9 l9 c9] a9 := (by obtain ⟨D, h⟩ := HV9.out; exact ⟨_, _, _, _, _, D, rfl, h.move fun b hb hl => by
                have hb' : w8.heap.size ≤ b := hb
                exact ⟨by omega, rfl⟩⟩)); (have hrow9 := RowG.two hv7 hv9 (by omega)); (have hst9 : ∀ b, W4.heap.size ≤ b → b < w5.heap.size → (w9.alloc (.cells #[.int .i64 k7, .string p7, .string n7, .int .i64 N7, .slice q7 l7 c7, .int .i64 k9, .string p9, .string n9, .int .i64 N9, .slice q9 l9 c9] 39)).heap[b]? = w5.heap[b]? := (by
                intro b hb hl
                rw [Below.heap_alloc _ _ _ (by omega), HD9.out.same (by show b < w8.heap.size; omega) (by omega)]
                show w8.heap[b]? = _
                rw [HD8.out.same (by rw [World.size_alloc]; omega) (by omega), Below.heap_alloc _ _ _ (by omega), HD7.out.same (by omega) (by omega), HD6.out.same hl (by omega)])); (obtain ⟨q10, c10, w10, hu, hrow10, hgr10⟩ := app_ann (wa := W4) hrow9 (by rw [World.size_alloc]; omega) (Nat.le_refl _) (.slice q5 a5.length c5) a5 ⟨HV5.out.1.move hst9, HV5.out.2⟩ (HV5.out.sl.move fun b hb hl => ⟨⟨hb, fun e => by have e2 : some b = some w9.heap.size := e; have e3 := Option.some.inj e2; have hl2 : b < w5.heap.size := hl; omega⟩, hst9 b hb hl⟩) (by simp)); (have hlen10 : ([a7, a9] ++ a5).length = a5.length + 2 := (by simp)); rw [hlen10] at hu hrow10; (have hgo : ∀ k, Value.ownBlock (.slice (some ⟨w9.heap.size, 0, none⟩) 2 2) = some k → k = w9.heap.size := fun k hk => (by cases hk; rfl)); (have HBx10 := Lib.hid (hb_grown (hb_alloc HBx9.out _) hgr10 (fun e => by have := hgo _ e.symm; omega))); (have HBt10 := Lib.hid (hb_grown (hb_alloc HBt9.out _) hgr10 (fun e => by have := hgo _ e.symm; omega))); (have HR10 : RowKit.Hid (Rd r E w10 ts9) := Lib.hid ((HR9.out.alloc _).grown hgr10 (fun k hk => by have := hgo k hk; omega))); (have HG10 : RowKit.Hid (Rg r w w10) := Lib.hid ((HG9.out.alloc _).grown hgr10 (fun k hk => by have := hgo k hk; omega))); (have HROW10 := Lib.hid hrow10); (have hz10 : w9.heap.size < w10.heap.size := (by have h := hgr10.size; rw [World.size_alloc] at h; omega)); clear hv7 hv9 hrow9 hst9 hrow10 hgr10 hlen10 hgo; obtain ⟨e0, e1, e2, e3, e4, f0, f1, f2, f3, f4⟩ := box5 HBt10.out; obtain ⟨g0, g1, g2, g3, g4, i0, i1, i2, i3, i4⟩ := box5 HBx10.out; have zt10 := hb_lt HBt10.out; have zx10 := hb_lt HBx10.out))
      try (refine hK _ _ ?_; clear hK K)
      refine wpAny_ready (rs := [4]) (by kernel_rfl) (by simp) ?_
      refine AllReady.cons rfl (fun K hK => ?_) AllReady.nil
      go_simp
      refine hK _ _ ?_
      clear hK K
      refine wpAny_ready (rs := [6]) (by kernel_rfl) (by simp) ?_
      refine AllReady.cons rfl (fun K hK => ?_) AllReady.nil
      refine step_append37 rfl _ _ rfl rfl rfl rfl hu ?_
      refine hK _ _ ?_
      clear hK K
      refine wpAny_take (i := 7) (v := ?_) rfl (by kernel_rfl) (by kernel_rfl) (by kernel_rfl) (fun _ _ _ h => h) (Or.inl ⟨by rfl, ?_⟩) ?_
      rotate_left
      · intro w
        go_simp
        first | done | with_reducible rfl
      refine wpAny_ready (rs := [8]) (by kernel_rfl) (by simp) ?_
      refine AllReady.cons rfl (fun K hK => ?_) AllReady.nil
      go_simp
      refine hK _ _ ?_
      clear hK K
      refine wpAny_done (by kernel_rfl) ?_ _
      go_wp2
      exact fin5 (w0 := w) (W := w10.setCell ⟨w.heap.size + 1, 4, none⟩ (.slice q10 (a5.length + 2) c10)) rfl rfl rfl (hb_set_other HBx10.out (a := ⟨w.heap.size + 1, 4, none⟩) _ (by show w.heap.size ≠ w.heap.size + 1; omega)) (Nat.le_refl _) (HG10.out.set_new (g := w.heap.size + 1) (by omega) 4 _) hrl (HR10.out.set_new (g := w.heap.size + 1) (by omega) 4 _) HS9.out W4.heap.size (by omega) (by omega) (kids_of (HROW10.out.all fun b hb hl => Below.heap_setCell _ _ _ _ (by show b ≠ w.heap.size + 1; omega)) (by have := HV5.out.2; simp; omega) (by decide) hst3)
    · go_simp
      go_wp2_with ((go_at_call 23; (with_reducible refine (HI.out _ _ (by first | exact HR8.out | exact HR8.out.alloc _ | exact (HR8.out.alloc _).alloc _ | exact ((HR8.out.alloc _).alloc _).alloc _ | exact HR8.out.upto (fun _ _ _ => rfl) | exact (HR8.out.alloc _).upto (fun _ _ _ => rfl))).mono ?_); rintro e w9 h9; rcases h9.step HS8.out with ⟨v9, a9, ts9, rfl, hV, hR, hg, hS, hx⟩ | ⟨y, rfl, hg, hSE⟩; rotate_left; (have hGE : Rg r w w9 := (by first | exact HG8.out.trans hg | exact (HG8.out.alloc _).trans hg | exact ((HG8.out.alloc _).alloc _).trans hg | exact (((HG8.out.alloc _).alloc _).alloc _).trans hg | exact HG8.out.drew.trans hg | exact (HG8.out.alloc _).drew.trans hg); subst hSE; exact ⟨rfl, hGE, rfl⟩); (obtain ⟨k9, p9, n9, N9, q9, l9, c9, rfl⟩ := hV.shape; have HV9 := Lib.hid hV); (have HR9 := Lib.hid hR; have HG9 : RowKit.Hid (Rg r w w9) := Lib.hid (by first | exact HG8.out.trans hg | exact (HG8.out.alloc _).trans hg | exact ((HG8.out.alloc _).alloc _).trans hg | exact (((HG8.out.alloc _).alloc _).alloc _).trans hg | exact HG8.out.drew.trans hg | exact (HG8.out.alloc _).drew.trans hg); have HS9 := Lib.hid hS; have HX9 := Lib.hid hx; have HD9 := Lib.hid hg; clear hR hg hS hx hV); (have HBx9 := Lib.hid (HD9.out.keep HBx8.out (by omega))); (have HBt9 := Lib.hid (HD9.out.keep HBt8.out (by omega))); (have HBv9 := Lib.hid (HD9.out.keep HBv8.out (by omega))); obtain ⟨u0, u1, u2, u3, u4, _⟩ := box5 HBv9.out; have su := hb_lt HBv9.out; (have hz9 : w8.heap.size ≤ w9.heap.size := HD9.out.size); (have hv7 : termK.V (fun b => W4.heap.size ≤ b) w9 [.int .i64 k7, .string p7, .string n7, .int .i64 N7, .slice q7 l7 c7] a7 := (by obtain ⟨D, h⟩ := HV7.out; exact ⟨_, _, _, _, _, D, rfl, h.move fun b hb hl => by
                have hb' : w6.heap.size ≤ b := hb
                refine ⟨by omega, ?_⟩
                rw [HD9.out.same (by show b < w8.heap.size; omega) (by omega)]
                show w8.heap[b]? = _
                rw [HD8.out.same (by rw [World.size_alloc]; omega) (by omega), Below.heap_alloc _ _ _ hl]⟩)); (have hv9 : termK.V (fun b => W4.heap.size ≤ b) w9 [.int .i64 k9, .string p9, .string n9, .int .i64 N9, .slice q9 l9 c9] a9 := (by obtain ⟨D, h⟩ := HV9.out; exact ⟨_, _, _, _, _, D, rfl, h.move fun b hb hl => by
                have hb' : w8.heap.size ≤ b := hb
                exact ⟨by omega, rfl⟩⟩)); (have hrow9 := RowG.two hv7 hv9 (by omega)); (have hst9 : ∀ b, W4.heap.size ≤ b → b < w5.heap.size → (w9.alloc (.cells #[.int .i64 k7, .string p7, .string n7, .int .i64 N7, .slice q7 l7 c7, .int .i64 k9, .string p9, .string n9, .int .i64 N9, .slice q9 l9 c9] 39)).heap[b]? = w5.heap[b]? := (by
                intro b hb hl
                rw [Below.heap_alloc _ _ _ (by omega), HD9.out.same (by show b < w8.heap.size; omega) (by omega)]
                show w8.heap[b]? = _
                rw [HD8.out.same (by rw [World.size_alloc]; omega) (by omega), Below.heap_alloc _ _ _ (by omega), HD7.out.same (by omega) (by omega), HD6.out.same hl (by omega)])); (obtain ⟨q10, c10, w10, hu, hrow10, hgr10⟩ := app_ann (wa := W4) hrow9 (by rw [World.size_alloc]; omega) (Nat.le_refl _) (.slice q5 a5.length c5) a5 ⟨HV5.out.1.move hst9, HV5.out.2⟩ (HV5.out.sl.move fun b hb hl => ⟨⟨hb, fun e => by have e2 : some b = some w9.heap.size := e; have e3 := Option.some.inj e2; have hl2 : b < w5.heap.size := hl; omega⟩, hst9 b hb hl⟩) (by simp)); (have hlen10 : ([a7, a9] ++ a5).length = a5.length + 2 := (by simp)); rw [hlen10] at hu hrow10; (have hgo : ∀ k, Value.ownBlock (.slice (some ⟨w9.heap.size, 0, none⟩) 2 2) = some k → k = w9.heap.size := fun k hk => (by cases hk; rfl)); (have HBx10 := Lib.hid (hb_grown (hb_alloc HBx9.out _) hgr10 (fun e => by have := hgo _ e.symm; omega))); (have HBt10 := Lib.hid (hb_grown (hb_alloc HBt9.out _) hgr10 (fun e => by have := hgo _ e.symm; omega))); (have HR10 : RowKit.Hid (Rd r E w10 ts9) := Lib.hid ((HR9.out.alloc _).grown hgr10 (fun k hk => by have := hgo k hk; omega))); (have HG10 : RowKit.Hid (Rg r w w10) := Lib.hid ((HG9.out.alloc _).grown hgr10 (fun k hk => by have := hgo k hk; omega))); (have HROW10 := Lib.hid hrow10); (have hz10 : w9.heap.size < w10.heap.size := (by have h := hgr10.size; rw [World.size_alloc] at h; omega)); clear hv7 hv9 hrow9 hst9 hrow10 hgr10 hlen10 hgo; obtain ⟨e0, e1, e2, e3, e4, f0, f1, f2, f3, f4⟩ := box5 HBt10.out; obtain ⟨g0, g1, g2, g3, g4, i0, i1, i2, i3, i4⟩ := box5 HBx10.out; have zt10 := hb_lt HBt10.out; have zx10 := hb_lt HBx10.out))
      try (refine hK _ _ ?_; clear hK K)
      refine wpAny_ready (rs := [0]) (by kernel_rfl) (by simp) ?_
      refine AllReady.cons rfl (fun K hK => ?_) AllReady.nil
      go_simp
      refine hK _ _ ?_
      clear hK K
      refine wpAny_ready (rs := [4]) (by kernel_rfl) (by simp) ?_
      refine AllReady.cons rfl (fun K hK => ?_) AllReady.nil
      go_simp
      refine hK _ _ ?_
      clear hK K
      refine wpAny_ready (rs := [6]) (by kernel_rfl) (by simp) ?_
      refine AllReady.cons rfl (fun K hK => ?_) AllReady.nil
      refine step_append37 rfl _ _ rfl rfl rfl rfl hu ?_
      refine hK _ _ ?_
      clear hK K
      refine wpAny_take (i := 7) (v := ?_) rfl (by kernel_rfl) (by kernel_rfl) (by kernel_rfl) (fun _ _ _ h => h) (Or.inl ⟨by rfl, ?_⟩) ?_
      rotate_left
      · intro w
        go_simp
        first | done | with_reducible rfl
      refine wpAny_ready (rs := [8]) (by kernel_rfl) (by simp) ?_
      refine AllReady.cons rfl (fun K hK => ?_) AllReady.nil
      go_simp
      refine hK _ _ ?_
      clear hK K
      refine wpAny_done (by kernel_rfl) ?_ _
      go_wp2
      exact fin5 (w0 := w) (W := w10.setCell ⟨w.heap.size + 1, 4, none⟩ (.slice q10 (a5.length + 2) c10)) rfl rfl rfl (hb_set_other HBx10.out (a := ⟨w.heap.size + 1, 4, none⟩) _ (by show w.heap.size ≠ w.heap.size + 1; omega)) (Nat.le_refl _) (HG10.out.set_new (g := w.heap.size + 1) (by omega) 4 _) hrl (HR10.out.set_new (g := w.heap.size + 1) (by omega) 4 _) HS9.out W4.heap.size (by omega) (by omega) (kids_of (HROW10.out.all fun b hb hl => Below.heap_setCell _ _ _ _ (by show b ≠ w.heap.size + 1; omega)) (by have := HV5.out.2; simp; omega) (by decide) hst3)
end Go.Proofs.YtlbnaddgdgbckaaGreatDoor
/- An expression. -/
namespace Go.Proofs.YtlbnaddgdgbckaaGreatDoor
open Go.RowKit
set_option linter.unusedSimpArgs false
set_option linter.unusedVariables false
set_option maxRecDepth 100000 in
set_option maxHeartbeats 4000000 in
theorem expr_any (r E : Nat) : ∀ (g d : Nat), d + g = 41 → ExprC r E g d := by
  intro g
  induction g with
  | zero =>
    intro d hd ts w hR
    have hd41 : 40 < d := by omega
    have HR0 := Lib.hid hR
    have hrl := hR.lt
    have HB := Lib.hid (fun W hW => begin_no r E d hd41 ts W hW)
    have hS : exprP E 0 ts = .error ((nx E ts).2, 9) := rfl
    rw [hS]
    clear hR hS hd hd41
    go_enter Tryz.func23, Tryz.ntmps23
    go_wp2_with (go_at_call 36; (with_reducible refine (HB.out _ (by first | exact HR0.out | exact HR0.out.alloc _ | exact (HR0.out.alloc _).alloc _ | exact ((HR0.out.alloc _).alloc _).alloc _ | exact HR0.out.upto (fun _ _ _ => rfl) | exact (HR0.out.alloc _).upto (fun _ _ _ => rfl))).mono ?_); rintro e w1 ⟨rfl, hg⟩)
    exact ⟨rfl, (((Rg.refl r w).alloc _).alloc _ |>.alloc _).trans hg, rfl⟩
  | succ g ih =>
    intro d hd ts w hR
    have hd40 : d ≤ 40 := by omega
    have hI : ExprC r E g (d + 1) := ih (d + 1) (by omega)
    have hc : ((d + 1 : Nat) : Int) = (d : Int) + 1 := by omega
    have HFUN : RowKit.Hid (∀ ts W, Rd r E W ts → Calls Tryz.prog 38 #[rp r, .int .i64 ((d : Int) + 1)] W (Got r E TmV W (funP E (exprP E g) ts))) := Lib.hid (fun ts W hW => hc ▸ fun_any r E g (d + 1) hI ts W hW)
    have HLET : RowKit.Hid (∀ ts W, Rd r E W ts → Calls Tryz.prog 39 #[rp r, .int .i64 ((d : Int) + 1)] W (Got r E TmV W (letP E (exprP E g) (typP E g) ts))) := Lib.hid (fun ts W hW => hc ▸ let_any r E g (d + 1) (by omega) hI ts W hW)
    have HMAT : RowKit.Hid (∀ ts W, Rd r E W ts → Calls Tryz.prog 40 #[rp r, .int .i64 ((d : Int) + 1)] W (Got r E TmV W (matP E (patP E g) (exprP E g) ts))) := Lib.hid (fun ts W hW => hc ▸ match_any r E g (d + 1) (by omega) hI ts W hW)
    have HAT := Lib.hid (fun ts W hW => atom_any r E g (d + 1) (by omega) hI ts W hW)
    have HCF : RowKit.Hid (∀ W, (callFunc 42 #[bp w.heap.size, bp (w.heap.size + 1)]).run Tryz.prog W = .ok (.enter 42 #[bp w.heap.size, bp (w.heap.size + 1)]) W) := Lib.hid (fun W => by kernel_rfl)
    have HR0 := Lib.hid hR
    have hrl := hR.lt
    have HBG := Lib.hid (fun W hW => begin_ok r E d hd40 ts W hW)
    have HG0 : RowKit.Hid (Rg r w w) := Lib.hid (Rg.refl r w)
    have HK1 := Lib.hid (fun W hW => skipKey_any r E kFun ts W hW)
    have HK2 := Lib.hid (fun W hW => skipKey_any r E kLet ts W hW)
    have HK3 := Lib.hid (fun W hW => skipKey_any r E kMatch ts W hW)
    obtain ⟨S, hS⟩ : ∃ S, S = exprP E (g + 1) ts := ⟨_, rfl⟩
    have HS0 := Lib.hid hS
    rw [← hS]
    unfold exprP at HS0
    clear hR hS ih hI hc
    cases hB1 : isB 7 kFun ts
    rotate_left
    · have h := HS0.out
      rw [hB1, if_pos rfl] at h
      rw [hB1] at HK1
      have HSa := Lib.hid h
      clear HS0 h hB1
      have HS0 := HSa
      go_enter Tryz.func23, Tryz.ntmps23
      go_upto_region 1 with (fail)
      obtain ⟨c0, c1, c2, hz3, hb3⟩ := boxes3 w (.cells #[rp r] 56) (.cells #[.int .i64 (d : Nat)] 3) (.cells #[.int .i64 0, .string ⟨#[]⟩, .string ⟨#[]⟩, .int .i64 0, .slice none 0 0] 39)
      generalize hW1 : ((w.alloc (.cells #[rp r] 56)).alloc (.cells #[.int .i64 (d : Nat)] 3)).alloc (.cells #[.int .i64 0, .string ⟨#[]⟩, .string ⟨#[]⟩, .int .i64 0, .slice none 0 0] 39) = W1 at *
      have HBr1 := Lib.hid c0
      have HBd1 := Lib.hid c1
      have HBx1 := Lib.hid c2
      have HR1 : RowKit.Hid (Rd r E W1 ts) := Lib.hid (HR0.out.below hb3)
      have HG1 : RowKit.Hid (Rg r w W1) := Lib.hid (Rg.of_below hb3)
      have HS1 := HS0
      have x0 := hb_at c0 0 rfl
      have x1 := hb_at c1 0 rfl
      have q0 := hb_lt c0
      have q1 := hb_lt c1
      have q2 := hb_lt c2
      clear hW1 c0 c1 c2 hb3
      go_wp2_with (first
        | (go_at_call 36; (with_reducible refine (HBG.out _ HR1.out).mono ?_); rintro e w2 ⟨rfl, rfl⟩)
        | (go_at_call 37; (with_reducible refine (HK1.out _ (by first | exact HR1.out | exact HR1.out.alloc _ | exact (HR1.out.alloc _).alloc _ | exact ((HR1.out.alloc _).alloc _).alloc _ | exact HR1.out.upto (fun _ _ _ => rfl) | exact (HR1.out.alloc _).upto (fun _ _ _ => rfl))).mono ?_); rintro e w2 ⟨rfl, hg, hr⟩; have HD2 := Lib.hid hg; have HG2 : RowKit.Hid (Rg r w w2) := Lib.hid (by first | exact HG1.out.trans hg | exact (HG1.out.alloc _).trans hg | exact ((HG1.out.alloc _).alloc _).trans hg | exact (((HG1.out.alloc _).alloc _).alloc _).trans hg | exact HG1.out.drew.trans hg | exact (HG1.out.alloc _).drew.trans hg); have HR2 : RowKit.Hid (Rd r E w2 ts.tail) := Lib.hid hr; (have HBr2 := Lib.hid (HD2.out.keep HBr1.out (by omega))); (have HBd2 := Lib.hid (HD2.out.keep HBd1.out (by omega))); (have HBx2 := Lib.hid (HD2.out.keep HBx1.out (by omega))); have u2a := hb_at HBr2.out 0 rfl; have u2b := hb_at HBd2.out 0 rfl; have u2c := hb_lt HBr2.out; have u2d := hb_lt HBd2.out; have u2e := hb_lt HBx2.out; obtain ⟨x20, x21, x22, x23, x24, y20, y21, y22, y23, y24⟩ := box5 HBx2.out; have HS2 := HS1; clear hg hr)
        | (go_at_call 38; (with_reducible refine (HFUN.out _ _ (by first | exact HR2.out | exact HR2.out.alloc _ | exact (HR2.out.alloc _).alloc _ | exact ((HR2.out.alloc _).alloc _).alloc _ | exact HR2.out.upto (fun _ _ _ => rfl) | exact (HR2.out.alloc _).upto (fun _ _ _ => rfl))).mono ?_); rintro e w3 h3; rcases h3.step (HS2.out.trans (bnd_id _).symm) with ⟨v3, a3, ts3, rfl, hV, hR, hg, hS, hx⟩ | ⟨y, rfl, hg, hSE⟩; rotate_left; (have hGE : Rg r w w3 := (by first | exact HG2.out.trans hg | exact (HG2.out.alloc _).trans hg | exact ((HG2.out.alloc _).alloc _).trans hg | exact (((HG2.out.alloc _).alloc _).alloc _).trans hg | exact HG2.out.drew.trans hg | exact (HG2.out.alloc _).drew.trans hg)); rotate_left; (obtain ⟨k3, p3, n3, N3, q3, l3, c3, rfl⟩ := hV.shape; have HV3 := Lib.hid hV); (have HR3 := Lib.hid hR; have HG3 : RowKit.Hid (Rg r w w3) := Lib.hid (by first | exact HG2.out.trans hg | exact (HG2.out.alloc _).trans hg | exact ((HG2.out.alloc _).alloc _).trans hg | exact (((HG2.out.alloc _).alloc _).alloc _).trans hg | exact HG2.out.drew.trans hg | exact (HG2.out.alloc _).drew.trans hg); have HS3 := Lib.hid hS; have HX3 := Lib.hid hx; have HD3 := Lib.hid hg; clear hR hg hS hx hV); (have HBr3 := Lib.hid (HD3.out.keep HBr2.out (by omega))); (have HBd3 := Lib.hid (HD3.out.keep HBd2.out (by omega))); (have HBx3 := Lib.hid (HD3.out.keep HBx2.out (by omega))); have u3a := hb_at HBr3.out 0 rfl; have u3b := hb_at HBd3.out 0 rfl; have u3c := hb_lt HBr3.out; have u3d := hb_lt HBd3.out; have u3e := hb_lt HBx3.out; obtain ⟨x30, x31, x32, x33, x34, y30, y31, y32, y33, y34⟩ := box5 HBx3.out))
      all_goals first | exact ⟨rfl, hGE, rfl⟩ | exact ⟨rfl, hGE, by rw [hSE]⟩ | skip
      have hzz := HG2.out.size
      exact fin5 (w0 := w) rfl rfl rfl HBx3.out (by omega) HG3.out hrl HR3.out HS3.out w2.heap.size (by omega) (by omega) HV3.out
    cases hB2 : isB 7 kLet ts
    rotate_left
    · have h := HS0.out
      rw [hB1, if_neg (by decide), hB2, if_pos rfl] at h
      rw [hB1] at HK1
      rw [hB2] at HK2
      have HSa := Lib.hid h
      clear HS0 h hB1 hB2
      have HS0 := HSa
      go_enter Tryz.func23, Tryz.ntmps23
      go_upto_region 1 with (fail)
      obtain ⟨c0, c1, c2, hz3, hb3⟩ := boxes3 w (.cells #[rp r] 56) (.cells #[.int .i64 (d : Nat)] 3) (.cells #[.int .i64 0, .string ⟨#[]⟩, .string ⟨#[]⟩, .int .i64 0, .slice none 0 0] 39)
      generalize hW1 : ((w.alloc (.cells #[rp r] 56)).alloc (.cells #[.int .i64 (d : Nat)] 3)).alloc (.cells #[.int .i64 0, .string ⟨#[]⟩, .string ⟨#[]⟩, .int .i64 0, .slice none 0 0] 39) = W1 at *
      have HBr1 := Lib.hid c0
      have HBd1 := Lib.hid c1
      have HBx1 := Lib.hid c2
      have HR1 : RowKit.Hid (Rd r E W1 ts) := Lib.hid (HR0.out.below hb3)
      have HG1 : RowKit.Hid (Rg r w W1) := Lib.hid (Rg.of_below hb3)
      have HS1 := HS0
      have x0 := hb_at c0 0 rfl
      have x1 := hb_at c1 0 rfl
      have q0 := hb_lt c0
      have q1 := hb_lt c1
      have q2 := hb_lt c2
      clear hW1 c0 c1 c2 hb3
      go_wp2_with (first
        | (go_at_call 36; (with_reducible refine (HBG.out _ HR1.out).mono ?_); rintro e w2 ⟨rfl, rfl⟩)
        | (go_at_call 37; (with_reducible refine (HK1.out _ (by first | exact HR1.out | exact HR1.out.alloc _ | exact (HR1.out.alloc _).alloc _ | exact ((HR1.out.alloc _).alloc _).alloc _ | exact HR1.out.upto (fun _ _ _ => rfl) | exact (HR1.out.alloc _).upto (fun _ _ _ => rfl))).mono ?_); rintro e w2 ⟨rfl, hg, hr⟩; have HD2 := Lib.hid hg; have HG2 : RowKit.Hid (Rg r w w2) := Lib.hid (by first | exact HG1.out.trans hg | exact (HG1.out.alloc _).trans hg | exact ((HG1.out.alloc _).alloc _).trans hg | exact (((HG1.out.alloc _).alloc _).alloc _).trans hg | exact HG1.out.drew.trans hg | exact (HG1.out.alloc _).drew.trans hg); have HR2 : RowKit.Hid (Rd r E w2 ts) := Lib.hid hr; (have HBr2 := Lib.hid (HD2.out.keep HBr1.out (by omega))); (have HBd2 := Lib.hid (HD2.out.keep HBd1.out (by omega))); (have HBx2 := Lib.hid (HD2.out.keep HBx1.out (by omega))); have u2a := hb_at HBr2.out 0 rfl; have u2b := hb_at HBd2.out 0 rfl; have u2c := hb_lt HBr2.out; have u2d := hb_lt HBd2.out; have u2e := hb_lt HBx2.out; obtain ⟨x20, x21, x22, x23, x24, y20, y21, y22, y23, y24⟩ := box5 HBx2.out; have HS2 := HS1; clear hg hr)
        | (go_at_call 37; (with_reducible refine (HK2.out _ (by first | exact HR2.out | exact HR2.out.alloc _ | exact (HR2.out.alloc _).alloc _ | exact ((HR2.out.alloc _).alloc _).alloc _ | exact HR2.out.upto (fun _ _ _ => rfl) | exact (HR2.out.alloc _).upto (fun _ _ _ => rfl))).mono ?_); rintro e w3 ⟨rfl, hg, hr⟩; have HD3 := Lib.hid hg; have HG3 : RowKit.Hid (Rg r w w3) := Lib.hid (by first | exact HG2.out.trans hg | exact (HG2.out.alloc _).trans hg | exact ((HG2.out.alloc _).alloc _).trans hg | exact (((HG2.out.alloc _).alloc _).alloc _).trans hg | exact HG2.out.drew.trans hg | exact (HG2.out.alloc _).drew.trans hg); have HR3 : RowKit.Hid (Rd r E w3 ts.tail) := Lib.hid hr; (have HBr3 := Lib.hid (HD3.out.keep HBr2.out (by omega))); (have HBd3 := Lib.hid (HD3.out.keep HBd2.out (by omega))); (have HBx3 := Lib.hid (HD3.out.keep HBx2.out (by omega))); have u3a := hb_at HBr3.out 0 rfl; have u3b := hb_at HBd3.out 0 rfl; have u3c := hb_lt HBr3.out; have u3d := hb_lt HBd3.out; have u3e := hb_lt HBx3.out; obtain ⟨x30, x31, x32, x33, x34, y30, y31, y32, y33, y34⟩ := box5 HBx3.out; have HS3 := HS2; clear hg hr)
        | (go_at_call 39; (with_reducible refine (HLET.out _ _ (by first | exact HR3.out | exact HR3.out.alloc _ | exact (HR3.out.alloc _).alloc _ | exact ((HR3.out.alloc _).alloc _).alloc _ | exact HR3.out.upto (fun _ _ _ => rfl) | exact (HR3.out.alloc _).upto (fun _ _ _ => rfl))).mono ?_); rintro e w4 h4; rcases h4.step (HS3.out.trans (bnd_id _).symm) with ⟨v4, a4, ts4, rfl, hV, hR, hg, hS, hx⟩ | ⟨y, rfl, hg, hSE⟩; rotate_left; (have hGE : Rg r w w4 := (by first | exact HG3.out.trans hg | exact (HG3.out.alloc _).trans hg | exact ((HG3.out.alloc _).alloc _).trans hg | exact (((HG3.out.alloc _).alloc _).alloc _).trans hg | exact HG3.out.drew.trans hg | exact (HG3.out.alloc _).drew.trans hg)); rotate_left; (obtain ⟨k4, p4, n4, N4, q4, l4, c4, rfl⟩ := hV.shape; have HV4 := Lib.hid hV); (have HR4 := Lib.hid hR; have HG4 : RowKit.Hid (Rg r w w4) := Lib.hid (by first | exact HG3.out.trans hg | exact (HG3.out.alloc _).trans hg | exact ((HG3.out.alloc _).alloc _).trans hg | exact (((HG3.out.alloc _).alloc _).alloc _).trans hg | exact HG3.out.drew.trans hg | exact (HG3.out.alloc _).drew.trans hg); have HS4 := Lib.hid hS; have HX4 := Lib.hid hx; have HD4 := Lib.hid hg; clear hR hg hS hx hV); (have HBr4 := Lib.hid (HD4.out.keep HBr3.out (by omega))); (have HBd4 := Lib.hid (HD4.out.keep HBd3.out (by omega))); (have HBx4 := Lib.hid (HD4.out.keep HBx3.out (by omega))); have u4a := hb_at HBr4.out 0 rfl; have u4b := hb_at HBd4.out 0 rfl; have u4c := hb_lt HBr4.out; have u4d := hb_lt HBd4.out; have u4e := hb_lt HBx4.out; obtain ⟨x40, x41, x42, x43, x44, y40, y41, y42, y43, y44⟩ := box5 HBx4.out))
      all_goals first | exact ⟨rfl, hGE, rfl⟩ | exact ⟨rfl, hGE, by rw [hSE]⟩ | skip
      have hzz := HG3.out.size
      exact fin5 (w0 := w) rfl rfl rfl HBx4.out (by omega) HG4.out hrl HR4.out HS4.out w3.heap.size (by omega) (by omega) HV4.out
    cases hB3 : isB 7 kMatch ts
    rotate_left
    · have h := HS0.out
      rw [hB1, if_neg (by decide), hB2, if_neg (by decide), hB3, if_pos rfl] at h
      rw [hB1] at HK1
      rw [hB2] at HK2
      rw [hB3] at HK3
      have HSa := Lib.hid h
      clear HS0 h hB1 hB2 hB3
      have HS0 := HSa
      go_enter Tryz.func23, Tryz.ntmps23
      go_upto_region 1 with (fail)
      obtain ⟨c0, c1, c2, hz3, hb3⟩ := boxes3 w (.cells #[rp r] 56) (.cells #[.int .i64 (d : Nat)] 3) (.cells #[.int .i64 0, .string ⟨#[]⟩, .string ⟨#[]⟩, .int .i64 0, .slice none 0 0] 39)
      generalize hW1 : ((w.alloc (.cells #[rp r] 56)).alloc (.cells #[.int .i64 (d : Nat)] 3)).alloc (.cells #[.int .i64 0, .string ⟨#[]⟩, .string ⟨#[]⟩, .int .i64 0, .slice none 0 0] 39) = W1 at *
      have HBr1 := Lib.hid c0
      have HBd1 := Lib.hid c1
      have HBx1 := Lib.hid c2
      have HR1 : RowKit.Hid (Rd r E W1 ts) := Lib.hid (HR0.out.below hb3)
      have HG1 : RowKit.Hid (Rg r w W1) := Lib.hid (Rg.of_below hb3)
      have HS1 := HS0
      have x0 := hb_at c0 0 rfl
      have x1 := hb_at c1 0 rfl
      have q0 := hb_lt c0
      have q1 := hb_lt c1
      have q2 := hb_lt c2
      clear hW1 c0 c1 c2 hb3
      go_wp2_with (first
        | (go_at_call 36; (with_reducible refine (HBG.out _ HR1.out).mono ?_); rintro e w2 ⟨rfl, rfl⟩)
        | (go_at_call 37; (with_reducible refine (HK1.out _ (by first | exact HR1.out | exact HR1.out.alloc _ | exact (HR1.out.alloc _).alloc _ | exact ((HR1.out.alloc _).alloc _).alloc _ | exact HR1.out.upto (fun _ _ _ => rfl) | exact (HR1.out.alloc _).upto (fun _ _ _ => rfl))).mono ?_); rintro e w2 ⟨rfl, hg, hr⟩; have HD2 := Lib.hid hg; have HG2 : RowKit.Hid (Rg r w w2) := Lib.hid (by first | exact HG1.out.trans hg | exact (HG1.out.alloc _).trans hg | exact ((HG1.out.alloc _).alloc _).trans hg | exact (((HG1.out.alloc _).alloc _).alloc _).trans hg | exact HG1.out.drew.trans hg | exact (HG1.out.alloc _).drew.trans hg); have HR2 : RowKit.Hid (Rd r E w2 ts) := Lib.hid hr; (have HBr2 := Lib.hid (HD2.out.keep HBr1.out (by omega))); (have HBd2 := Lib.hid (HD2.out.keep HBd1.out (by omega))); (have HBx2 := Lib.hid (HD2.out.keep HBx1.out (by omega))); have u2a := hb_at HBr2.out 0 rfl; have u2b := hb_at HBd2.out 0 rfl; have u2c := hb_lt HBr2.out; have u2d := hb_lt HBd2.out; have u2e := hb_lt HBx2.out; obtain ⟨x20, x21, x22, x23, x24, y20, y21, y22, y23, y24⟩ := box5 HBx2.out; have HS2 := HS1; clear hg hr)
        | (go_at_call 37; (with_reducible refine (HK2.out _ (by first | exact HR2.out | exact HR2.out.alloc _ | exact (HR2.out.alloc _).alloc _ | exact ((HR2.out.alloc _).alloc _).alloc _ | exact HR2.out.upto (fun _ _ _ => rfl) | exact (HR2.out.alloc _).upto (fun _ _ _ => rfl))).mono ?_); rintro e w3 ⟨rfl, hg, hr⟩; have HD3 := Lib.hid hg; have HG3 : RowKit.Hid (Rg r w w3) := Lib.hid (by first | exact HG2.out.trans hg | exact (HG2.out.alloc _).trans hg | exact ((HG2.out.alloc _).alloc _).trans hg | exact (((HG2.out.alloc _).alloc _).alloc _).trans hg | exact HG2.out.drew.trans hg | exact (HG2.out.alloc _).drew.trans hg); have HR3 : RowKit.Hid (Rd r E w3 ts) := Lib.hid hr; (have HBr3 := Lib.hid (HD3.out.keep HBr2.out (by omega))); (have HBd3 := Lib.hid (HD3.out.keep HBd2.out (by omega))); (have HBx3 := Lib.hid (HD3.out.keep HBx2.out (by omega))); have u3a := hb_at HBr3.out 0 rfl; have u3b := hb_at HBd3.out 0 rfl; have u3c := hb_lt HBr3.out; have u3d := hb_lt HBd3.out; have u3e := hb_lt HBx3.out; obtain ⟨x30, x31, x32, x33, x34, y30, y31, y32, y33, y34⟩ := box5 HBx3.out; have HS3 := HS2; clear hg hr)
        | (go_at_call 37; (with_reducible refine (HK3.out _ (by first | exact HR3.out | exact HR3.out.alloc _ | exact (HR3.out.alloc _).alloc _ | exact ((HR3.out.alloc _).alloc _).alloc _ | exact HR3.out.upto (fun _ _ _ => rfl) | exact (HR3.out.alloc _).upto (fun _ _ _ => rfl))).mono ?_); rintro e w4 ⟨rfl, hg, hr⟩; have HD4 := Lib.hid hg; have HG4 : RowKit.Hid (Rg r w w4) := Lib.hid (by first | exact HG3.out.trans hg | exact (HG3.out.alloc _).trans hg | exact ((HG3.out.alloc _).alloc _).trans hg | exact (((HG3.out.alloc _).alloc _).alloc _).trans hg | exact HG3.out.drew.trans hg | exact (HG3.out.alloc _).drew.trans hg); have HR4 : RowKit.Hid (Rd r E w4 ts.tail) := Lib.hid hr; (have HBr4 := Lib.hid (HD4.out.keep HBr3.out (by omega))); (have HBd4 := Lib.hid (HD4.out.keep HBd3.out (by omega))); (have HBx4 := Lib.hid (HD4.out.keep HBx3.out (by omega))); have u4a := hb_at HBr4.out 0 rfl; have u4b := hb_at HBd4.out 0 rfl; have u4c := hb_lt HBr4.out; have u4d := hb_lt HBd4.out; have u4e := hb_lt HBx4.out; obtain ⟨x40, x41, x42, x43, x44, y40, y41, y42, y43, y44⟩ := box5 HBx4.out; have HS4 := HS3; clear hg hr)
        | (go_at_call 40; (with_reducible refine (HMAT.out _ _ (by first | exact HR4.out | exact HR4.out.alloc _ | exact (HR4.out.alloc _).alloc _ | exact ((HR4.out.alloc _).alloc _).alloc _ | exact HR4.out.upto (fun _ _ _ => rfl) | exact (HR4.out.alloc _).upto (fun _ _ _ => rfl))).mono ?_); rintro e w5 h5; rcases h5.step (HS4.out.trans (bnd_id _).symm) with ⟨v5, a5, ts5, rfl, hV, hR, hg, hS, hx⟩ | ⟨y, rfl, hg, hSE⟩; rotate_left; (have hGE : Rg r w w5 := (by first | exact HG4.out.trans hg | exact (HG4.out.alloc _).trans hg | exact ((HG4.out.alloc _).alloc _).trans hg | exact (((HG4.out.alloc _).alloc _).alloc _).trans hg | exact HG4.out.drew.trans hg | exact (HG4.out.alloc _).drew.trans hg)); rotate_left; (obtain ⟨k5, p5, n5, N5, q5, l5, c5, rfl⟩ := hV.shape; have HV5 := Lib.hid hV); (have HR5 := Lib.hid hR; have HG5 : RowKit.Hid (Rg r w w5) := Lib.hid (by first | exact HG4.out.trans hg | exact (HG4.out.alloc _).trans hg | exact ((HG4.out.alloc _).alloc _).trans hg | exact (((HG4.out.alloc _).alloc _).alloc _).trans hg | exact HG4.out.drew.trans hg | exact (HG4.out.alloc _).drew.trans hg); have HS5 := Lib.hid hS; have HX5 := Lib.hid hx; have HD5 := Lib.hid hg; clear hR hg hS hx hV); (have HBr5 := Lib.hid (HD5.out.keep HBr4.out (by omega))); (have HBd5 := Lib.hid (HD5.out.keep HBd4.out (by omega))); (have HBx5 := Lib.hid (HD5.out.keep HBx4.out (by omega))); have u5a := hb_at HBr5.out 0 rfl; have u5b := hb_at HBd5.out 0 rfl; have u5c := hb_lt HBr5.out; have u5d := hb_lt HBd5.out; have u5e := hb_lt HBx5.out; obtain ⟨x50, x51, x52, x53, x54, y50, y51, y52, y53, y54⟩ := box5 HBx5.out))
      all_goals first | exact ⟨rfl, hGE, rfl⟩ | exact ⟨rfl, hGE, by rw [hSE]⟩ | skip
      have hzz := HG4.out.size
      exact fin5 (w0 := w) rfl rfl rfl HBx5.out (by omega) HG5.out hrl HR5.out HS5.out w4.heap.size (by omega) (by omega) HV5.out
    have h := HS0.out
    rw [hB1, if_neg (by decide), hB2, if_neg (by decide), hB3, if_neg (by decide)] at h
    rw [hB1] at HK1
    rw [hB2] at HK2
    rw [hB3] at HK3
    have HSa := Lib.hid h
    clear HS0 h hB1 hB2 hB3
    have HS0 := HSa
    go_enter Tryz.func23, Tryz.ntmps23
    go_upto_region 1 with (fail)
    obtain ⟨c0, c1, c2, hz3, hb3⟩ := boxes3 w (.cells #[rp r] 56) (.cells #[.int .i64 (d : Nat)] 3) (.cells #[.int .i64 0, .string ⟨#[]⟩, .string ⟨#[]⟩, .int .i64 0, .slice none 0 0] 39)
    generalize hW1 : ((w.alloc (.cells #[rp r] 56)).alloc (.cells #[.int .i64 (d : Nat)] 3)).alloc (.cells #[.int .i64 0, .string ⟨#[]⟩, .string ⟨#[]⟩, .int .i64 0, .slice none 0 0] 39) = W1 at *
    have HBr1 := Lib.hid c0
    have HBd1 := Lib.hid c1
    have HBx1 := Lib.hid c2
    have HR1 : RowKit.Hid (Rd r E W1 ts) := Lib.hid (HR0.out.below hb3)
    have HG1 : RowKit.Hid (Rg r w W1) := Lib.hid (Rg.of_below hb3)
    have HS1 := HS0
    have x0 := hb_at c0 0 rfl
    have x1 := hb_at c1 0 rfl
    have q0 := hb_lt c0
    have q1 := hb_lt c1
    have q2 := hb_lt c2
    clear hW1 c0 c1 c2 hb3
    go_wp2_with (first
      | (go_at_call 36; (with_reducible refine (HBG.out _ HR1.out).mono ?_); rintro e w2 ⟨rfl, rfl⟩)
      | (go_at_call 37; (with_reducible refine (HK1.out _ (by first | exact HR1.out | exact HR1.out.alloc _ | exact (HR1.out.alloc _).alloc _ | exact ((HR1.out.alloc _).alloc _).alloc _ | exact HR1.out.upto (fun _ _ _ => rfl) | exact (HR1.out.alloc _).upto (fun _ _ _ => rfl))).mono ?_); rintro e w2 ⟨rfl, hg, hr⟩; have HD2 := Lib.hid hg; have HG2 : RowKit.Hid (Rg r w w2) := Lib.hid (by first | exact HG1.out.trans hg | exact (HG1.out.alloc _).trans hg | exact ((HG1.out.alloc _).alloc _).trans hg | exact (((HG1.out.alloc _).alloc _).alloc _).trans hg | exact HG1.out.drew.trans hg | exact (HG1.out.alloc _).drew.trans hg); have HR2 : RowKit.Hid (Rd r E w2 ts) := Lib.hid hr; (have HBr2 := Lib.hid (HD2.out.keep HBr1.out (by omega))); (have HBd2 := Lib.hid (HD2.out.keep HBd1.out (by omega))); (have HBx2 := Lib.hid (HD2.out.keep HBx1.out (by omega))); have u2a := hb_at HBr2.out 0 rfl; have u2b := hb_at HBd2.out 0 rfl; have u2c := hb_lt HBr2.out; have u2d := hb_lt HBd2.out; have u2e := hb_lt HBx2.out; obtain ⟨x20, x21, x22, x23, x24, y20, y21, y22, y23, y24⟩ := box5 HBx2.out; have HS2 := HS1; clear hg hr)
      | (go_at_call 37; (with_reducible refine (HK2.out _ (by first | exact HR2.out | exact HR2.out.alloc _ | exact (HR2.out.alloc _).alloc _ | exact ((HR2.out.alloc _).alloc _).alloc _ | exact HR2.out.upto (fun _ _ _ => rfl) | exact (HR2.out.alloc _).upto (fun _ _ _ => rfl))).mono ?_); rintro e w3 ⟨rfl, hg, hr⟩; have HD3 := Lib.hid hg; have HG3 : RowKit.Hid (Rg r w w3) := Lib.hid (by first | exact HG2.out.trans hg | exact (HG2.out.alloc _).trans hg | exact ((HG2.out.alloc _).alloc _).trans hg | exact (((HG2.out.alloc _).alloc _).alloc _).trans hg | exact HG2.out.drew.trans hg | exact (HG2.out.alloc _).drew.trans hg); have HR3 : RowKit.Hid (Rd r E w3 ts) := Lib.hid hr; (have HBr3 := Lib.hid (HD3.out.keep HBr2.out (by omega))); (have HBd3 := Lib.hid (HD3.out.keep HBd2.out (by omega))); (have HBx3 := Lib.hid (HD3.out.keep HBx2.out (by omega))); have u3a := hb_at HBr3.out 0 rfl; have u3b := hb_at HBd3.out 0 rfl; have u3c := hb_lt HBr3.out; have u3d := hb_lt HBd3.out; have u3e := hb_lt HBx3.out; obtain ⟨x30, x31, x32, x33, x34, y30, y31, y32, y33, y34⟩ := box5 HBx3.out; have HS3 := HS2; clear hg hr)
      | (go_at_call 37; (with_reducible refine (HK3.out _ (by first | exact HR3.out | exact HR3.out.alloc _ | exact (HR3.out.alloc _).alloc _ | exact ((HR3.out.alloc _).alloc _).alloc _ | exact HR3.out.upto (fun _ _ _ => rfl) | exact (HR3.out.alloc _).upto (fun _ _ _ => rfl))).mono ?_); rintro e w4 ⟨rfl, hg, hr⟩; have HD4 := Lib.hid hg; have HG4 : RowKit.Hid (Rg r w w4) := Lib.hid (by first | exact HG3.out.trans hg | exact (HG3.out.alloc _).trans hg | exact ((HG3.out.alloc _).alloc _).trans hg | exact (((HG3.out.alloc _).alloc _).alloc _).trans hg | exact HG3.out.drew.trans hg | exact (HG3.out.alloc _).drew.trans hg); have HR4 : RowKit.Hid (Rd r E w4 ts) := Lib.hid hr; (have HBr4 := Lib.hid (HD4.out.keep HBr3.out (by omega))); (have HBd4 := Lib.hid (HD4.out.keep HBd3.out (by omega))); (have HBx4 := Lib.hid (HD4.out.keep HBx3.out (by omega))); have u4a := hb_at HBr4.out 0 rfl; have u4b := hb_at HBd4.out 0 rfl; have u4c := hb_lt HBr4.out; have u4d := hb_lt HBd4.out; have u4e := hb_lt HBx4.out; obtain ⟨x40, x41, x42, x43, x44, y40, y41, y42, y43, y44⟩ := box5 HBx4.out; have HS4 := HS3; clear hg hr)
      | (go_at_call 41; (with_reducible refine (applied_t r E (atomP E (exprP E g) (typP E g)) 42 _ _ _ (by first | exact HR4.out | exact HR4.out.alloc _ | exact (HR4.out.alloc _).alloc _ | exact ((HR4.out.alloc _).alloc _).alloc _ | exact HR4.out.upto (fun _ _ _ => rfl) | exact (HR4.out.alloc _).upto (fun _ _ _ => rfl)) HCF.out (expr1_any r E d g hd40 HAT.out _ _ w4 HBr4.out HBd4.out (by omega) (by omega))).mono ?_); rintro e w5 h5; rcases h5.step (HS4.out.trans (bnd_id _).symm) with ⟨v5, a5, ts5, rfl, hV, hR, hg, hS, hx⟩ | ⟨y, rfl, hg, hSE⟩; rotate_left; (have hGE : Rg r w w5 := (by first | exact HG4.out.trans hg | exact (HG4.out.alloc _).trans hg | exact ((HG4.out.alloc _).alloc _).trans hg | exact (((HG4.out.alloc _).alloc _).alloc _).trans hg | exact HG4.out.drew.trans hg | exact (HG4.out.alloc _).drew.trans hg)); rotate_left; (obtain ⟨k5, p5, n5, N5, q5, l5, c5, rfl⟩ := hV.shape; have HV5 := Lib.hid hV); (have HR5 := Lib.hid hR; have HG5 : RowKit.Hid (Rg r w w5) := Lib.hid (by first | exact HG4.out.trans hg | exact (HG4.out.alloc _).trans hg | exact ((HG4.out.alloc _).alloc _).trans hg | exact (((HG4.out.alloc _).alloc _).alloc _).trans hg | exact HG4.out.drew.trans hg | exact (HG4.out.alloc _).drew.trans hg); have HS5 := Lib.hid hS; have HX5 := Lib.hid hx; have HD5 := Lib.hid hg; clear hR hg hS hx hV); (have HBr5 := Lib.hid (HD5.out.keep HBr4.out (by omega))); (have HBd5 := Lib.hid (HD5.out.keep HBd4.out (by omega))); (have HBx5 := Lib.hid (HD5.out.keep HBx4.out (by omega))); have u5a := hb_at HBr5.out 0 rfl; have u5b := hb_at HBd5.out 0 rfl; have u5c := hb_lt HBr5.out; have u5d := hb_lt HBd5.out; have u5e := hb_lt HBx5.out; obtain ⟨x50, x51, x52, x53, x54, y50, y51, y52, y53, y54⟩ := box5 HBx5.out))
    all_goals first | exact ⟨rfl, hGE, rfl⟩ | exact ⟨rfl, hGE, by rw [hSE]⟩ | skip
    have hzz := HG4.out.size
    exact fin5 (w0 := w) rfl rfl rfl HBx5.out (by omega) HG5.out hrl HR5.out HS5.out w4.heap.size (by omega) (by omega) HV5.out
end Go.Proofs.YtlbnaddgdgbckaaGreatDoor
