/- Texts in a row: Pf Pg Ph Pm. -/
import Derived.Test.YtmkjalnlldpdcaaGreatDoorZT11
set_option maxHeartbeats 16000000
set_option maxRecDepth 100000
namespace Go.Proofs.YtmkjalnlldpdcaaGreatDoor
open Go.RowKit
set_option linter.unusedSimpArgs false
set_option linter.unusedVariables false
def Mono {α : Type} (one : Ts → Res α) : Prop := ∀ ts a ts', one ts = .ok (a, ts') → ts'.length ≤ ts.length
theorem isB_pos {k : Int} {x : ByteArray} {ts : Ts} (hk : k ≠ 0) (h : isB k x ts = true) : ts.tail.length + 1 = ts.length := by
 obtain ⟨t, ts', rfl⟩ := isB_cons hk (isB_kd h).1
 rfl
theorem sevF_any {α : Type} {E : Nat} {bt : ByteArray} {one : Ts → Res α} (hm : Mono one) : ∀ (f g : Nat) (ts : Ts) (acc : List α), ts.length < f → ts.length < g → sevF E bt one f ts acc = sevF E bt one g ts acc := by
 intro f
 induction f with
 | zero => intro g ts acc h; omega
 | succ f ih =>
  intro g ts acc h1 h2
  cases g with
  | zero => omega
  | succ g =>
   unfold sevF
   by_cases hB : isB 8 bt ts = true
   · rw [if_pos hB, if_pos hB]
     have hl := isB_pos (by decide) hB
     cases hx : one ts.tail with
     | error e => rfl
     | ok y =>
      obtain ⟨a, ts'⟩ := y
      have := hm _ _ _ hx
      rw [bnd_ok, bnd_ok]
      exact ih g ts' _ (by omega) (by omega)
   · rw [if_neg hB, if_neg hB]
theorem sevL_step {α : Type} {E : Nat} {bt : ByteArray} {one : Ts → Res α} (hm : Mono one) (ts : Ts) (acc : List α) :
 sevL E bt one ts acc = if isB 8 bt ts then bnd (one ts.tail) fun a ts => sevL E bt one ts (acc ++ [a]) else .ok (acc, ts) := by
 unfold sevL
 rw [sevF]
 by_cases hB : isB 8 bt ts = true
 · rw [if_pos hB, if_pos hB]
   have hl := isB_pos (by decide) hB
   cases hx : one ts.tail with
   | error e => rfl
   | ok y =>
    obtain ⟨a, ts'⟩ := y
    have := hm _ _ _ hx
    rw [bnd_ok, bnd_ok]
    exact sevF_any hm _ _ _ _ (by omega) (by omega)
 · rw [if_neg hB, if_neg hB]
def termK : Mem Tm where
 t := 22
 e := 24
 size := 5
 bytes := 72
 V X w cs t := ∃ k p n N s d, cs = [.int .i64 k, .string p, .string n, .int .i64 N, s] ∧ IsX X w d (tv k p n N s) t
 und := Tryz.underlying22
 inf := ⟨tv 0 ⟨#[]⟩ ⟨#[]⟩ 0 (.slice none 0 0), by kernel_rfl, rfl⟩
 pos := by decide
 few := by decide
 len := by rintro X w cs a ⟨k, p, n, N, s, d, rfl, _⟩; rfl
 one := by
  rintro X w cs a ⟨k, p, n, N, s, d, rfl, h⟩ u hu
  obtain ⟨q, c, rfl⟩ : ∃ q c, s = .slice q (match a with | .mk _ _ _ _ kids => kids.length) c := by
   cases d with
   | zero => cases h
   | succ d =>
    obtain ⟨k', p', n', N', kids⟩ := a
    obtain ⟨q, c, e, _⟩ := h
    cases e
    exact ⟨q, c, rfl⟩
  simp at hu
  rcases hu with rfl | rfl | rfl | rfl | rfl <;> rfl
 move := by
  rintro X Y w w' cs a hXY ⟨k, p, n, N, s, d, e, h⟩
  exact ⟨k, p, n, N, s, d, e, h.move hXY⟩
def LsV (w w' : World) (v : Value) (l : List Tm) : Prop := RowG termK w.heap.size w' v l ∧ l.length ≤ 7000
theorem oper_append_at {T : TypeId} {w w' : World} {o : Oper} {a : Act} {K : Act → World → Prop} {Q : Exit → Act → World → Prop} (s x : Operand)
 (ho : o.op = .call { callee := .builtin .append, args := #[s, x], argTypes := #[T, T] }) (hty : o.type = T) {v vx v' : Value} (hs : a.eval s = v) (hx : a.eval x = vx)
 (hrun : (Builtin.append_ #[T, T] T #[v, vx]).run Tryz.prog w = .ok v' w') (h : K (a.put o.dst v') w') : Oper.wp Tryz.prog o a w K Q := by
 unfold Oper.wp execOp
 simp only [ho, hty, resolve, invoke, builtin, Sem.run_bind, Sem.run_pure, Result.andThen_ok, List.map_toArray, List.map_cons, List.map_nil, hs, hx, hrun]
 exact h
theorem wpList_append_at {T : TypeId} {w w' : World} {ops : Array Oper} {rest : List Oper} {o : Oper} {a : Act} {Q : Exit → Act → World → Prop} (hg : o.guard = none) (s x : Operand)
 (ho : o.op = .call { callee := .builtin .append, args := #[s, x], argTypes := #[T, T] }) (hty : o.type = T) {v vx v' : Value} (hs : a.eval s = v) (hx : a.eval x = vx)
 (hrun : (Builtin.append_ #[T, T] T #[v, vx]).run Tryz.prog w = .ok v' w') (h : wpList Tryz.prog ops Q rest (a.put o.dst v') w') : wpList Tryz.prog ops Q (o :: rest) a w := by
 have hw : Region.wanted o (yielded ops a.tmps) = true := by simp [Region.wanted, hg]
 unfold wpList
 rw [if_pos hw]
 exact .inl (oper_append_at s x ho hty hs hx hrun h)
theorem IsX.shape {X : Nat → Prop} {w : World} {d : Nat} {v : Value} {x : Tm} (h : IsX X w d v x) : ∃ k p n N q ln c, v = tv k p n N (.slice q ln c) := by
 cases d with
 | zero => cases h
 | succ d =>
  obtain ⟨k, p, n, N, kids⟩ := x
  obtain ⟨q, c, h1, _⟩ := h
  exact ⟨k, p, n, N, q, _, c, h1⟩
theorem TmV.shape {w w' : World} {v : Value} {t : Tm} (h : TmV w w' v t) : ∃ k p n N q ln c, v = tv k p n N (.slice q ln c) := let ⟨_, h⟩ := h; h.shape
def left (r : Nat) (w : World) : Nat := match w.cell? ⟨r, 0, none⟩ with
 | some (.slice _ n _) => n
 | _ => 0
theorem Rd.left {r E : Nat} {w : World} {ts : Ts} (h : Rd r E w ts) : left r w = ts.length := by
 obtain ⟨_, v, hr, q, c, rfl, _⟩ := h
 have x0 := hb_at hr 0 (v := .slice q ts.length c) rfl
 unfold Proofs.YtmkjalnlldpdcaaGreatDoor.left
 rw [x0]
def OneT (r E : Nat) (one : Ts → Res Tm) (n : Nat) (cap : Array Value) (w : World) : Prop := ∀ W ts, Rg r w W → Rd r E W ts → Calls Tryz.prog n cap W (Got r E TmV W (one ts))
theorem OneT.at {r E : Nat} {one : Ts → Res Tm} {n : Nat} {cap : Array Value} {w w1 : World} (h : OneT r E one n cap w) (hg : Rg r w w1) : OneT r E one n cap w1 := fun W ts h1 h2 => h W ts (hg.trans h1) h2
theorem several_t (r E : Nat) (bt : ByteArray) (one : Ts → Res Tm) (n : Nat) (cap : Array Value) (w : World) (ts : Ts) (hR : Rd r E w ts) (hm : Mono one)
 (hcf : ∀ W, (callFunc n cap).run Tryz.prog W = .ok (.enter n cap) W) (HC : OneT r E one n cap w) :
 Calls Tryz.prog 232 #[rp r, .string bt, .func (.func n) #[] cap] w (Got r E LsV w (sevP E bt one ts)) := by
 have HC : RowKit.Hid (∀ W ts, Rg r w W → Rd r E W ts → Calls Tryz.prog n cap W (Got r E TmV W (one ts))) := Hd HC
 have HR := Hd hR
 have hrl := hR.lt
 have hfew := hR.few
 have HM := Hd hm
 obtain ⟨S, hS⟩ : ∃ S, S = sevP E bt one ts := ⟨_, rfl⟩
 have HS := Hd hS
 rw [← hS]
 unfold sevP at HS
 clear hR hS hm
 go_enter Tryz.func232, Tryz.ntmps232
 go_wp2_with (first | ((with_reducible refine (HC.out _ _ (Rg.refl _ _) HR.out).mono ?_); rintro e w1 h1; rcases h1.step HS.out with ⟨v, a, ts1, rfl, hV, hR1, hg1, hS1, hx1⟩ | ⟨y, rfl, hGE, hS1⟩; (obtain ⟨tk, tp, tn, tN, tq, tl, tc, rfl⟩ := hV.shape; have HV := Hd hV; have HR1 := Hd hR1; have HG1 := Hd hg1; have HS1 := Hd hS1; have HX1 := Hd hx1; clear hV hR1 hg1 hS1 hx1)))
 all_goals first | exact ⟨rfl, hGE, rfl⟩ | exact ⟨rfl, hGE, by rw [hS1]⟩ | skip
 go_loopw [7] (fun v wr => ∃ (ts' : Ts) (acc : List Tm), S = sevL E bt one ts' acc ∧ acc.length + ts'.length ≤ 6001 ∧ Rg r w wr ∧ Rd r E wr ts' ∧ RowG termK w.heap.size wr v acc) (fun _ wr => left r wr)
 case atStart =>
  have hlen : ts1.length ≤ ts.length := HM.out _ _ _ HX1.out
  obtain ⟨d, hX⟩ := HV.out
  exact ⟨ts1, [a], HS1.out, by simp; omega, HG1.out.alloc _, HR1.out.alloc _, RowG.one (K := termK) (cs := [.int .i64 tk, .string tp, .string tn, .int .i64 tN, .slice tq tl tc]) ⟨_, _, _, _, _, d, rfl, hX⟩ HG1.out.size _ rfl⟩
 case round =>
  obtain ⟨ts', acc, hT, hbd, hg, hRd, hrow⟩ := hrel
  rw [sevL_step HM.out] at hT
  have hz := hg.size
  obtain ⟨aq, ac, rfl⟩ := hrow.shape
  have HT := Hd hT
  have HGr := Hd hg
  have HRr := Hd hRd
  have HROW := Hd hrow
  have HK := Hd (fun W hW => skipSign_any r E bt ts' W hW)
  clear hT hg hRd hrow
  cases hB : isB 8 bt ts' with
  | false =>
   have HT2 := HT.out
   rw [hB, if_neg (by decide)] at HT2
   rw [hB] at HK
   subst HT2
   go_wp2_with (go_at_call 139; (with_reducible refine (HK.out _ HRr.out).mono ?_); rintro e w2 ⟨rfl, hg, hr⟩; have HG2 := Hd (HGr.out.trans hg); have HGs := Hd hg; have HR2 := Hd hr; clear hg hr)
   refine bodyPost_ret (v := .slice aq acc.length ac) (by simp [results, Tryz.results232, go_sem]) rfl ⟨HG2.out, ⟨_, rfl, HROW.out.move fun b hb hl => HGs.out.same hl (by omega), by show acc.length ≤ 7000; omega⟩, HR2.out⟩
  | true =>
   have HT2 := HT.out
   rw [hB, if_pos rfl] at HT2
   rw [hB] at HK
   have HT3 := Hd HT2
   have hpos := isB_pos (by decide) hB
   have hleft := HRr.out.left
   clear HT HT2 hB
   go_wp2_with (first
    | (go_at_call 139; (with_reducible refine (HK.out _ HRr.out).mono ?_); rintro e w2 ⟨rfl, hg, hr⟩; have HG2 := Hd (HGr.out.trans hg); have HGs := Hd hg; have HR2 : RowKit.Hid (Rd r E w2 ts'.tail) := Hd hr; clear hg hr)
    | ((with_reducible refine (HC.out _ _ HG2.out HR2.out).mono ?_); rintro e w3 h3; rcases h3.step HT3.out with ⟨v, a3, ts3, rfl, hV, hR3, hg3, hS3, hx3⟩ | ⟨y, rfl, hGE, hS3⟩; (obtain ⟨tk, tp, tn, tN, tq, tl, tc, rfl⟩ := hV.shape; have HV3 := Hd hV; have HR3 := Hd hR3; have HG3 := Hd (HG2.out.trans hg3); have HGt := Hd (HGs.out.trans hg3); have HS3 := Hd hS3; have HX3 := Hd hx3; clear hV hR3 hg3 hS3 hx3))
    | (at_builtin; refine (fun h : True → _ => h trivial) ?_))
   all_goals first | exact ⟨rfl, HG2.out.trans hGE, rfl⟩ | exact ⟨rfl, HG2.out.trans hGE, by rw [hS3]⟩ | skip
   intro _
   obtain ⟨d, hX⟩ := HV3.out
   have hs3 := HGt.out.size
   obtain ⟨v', w', hrun, hrow', hgr, hblk⟩ := RowG.append (K := termK) (ms := [a3]) (wq := w3.alloc (.cells #[.int .i64 tk, .string tp, .string tn, .int .i64 tN, .slice tq tl tc] 24)) HROW.out hz Q69
    (fun b h1 h2 => by rw [Below.heap_alloc _ _ _ (by omega)]; exact HGt.out.same h2 (by omega)) (g := w3.heap.size) (o := 0) (cc := 1)
    (fun i x hx => by
     match i, hx with
     | 0, hx =>
      obtain rfl : a3 = x := by simpa using hx
      refine ⟨[.int .i64 tk, .string tp, .string tn, .int .i64 tN, .slice tq tl tc], fun j u hu => ?_, _, _, _, _, _, d, rfl, hX.move fun b hb hl => ⟨by have := HGs.out.size; unfold New at hb; omega, Below.heap_alloc _ _ _ hl⟩⟩
      have e : 0 + 0 * termK.size + j = j := by omega
      rw [e, hb_cell (hb_new _ _)]
      simpa using hu
     | i + 1, hx => simp at hx) (by omega) (by simp)
   refine wpList_append_at rfl _ _ rfl rfl rfl rfl hrun ?_
   have hlen : ts3.length ≤ ts'.tail.length := HM.out _ _ _ HX3.out
   have HRW := Hd hrow'
   have hg4 : Rg r w w' := (HG3.out.alloc _).grown hgr hblk
   have hr4 : Rd r E w' ts3 := (HR3.out.alloc _).grown hgr (fun k hk => by have := hblk k hk; omega)
   have HG4 := Hd hg4
   have HR4 := Hd hr4
   have hl4 := hr4.left
   clear hgr hrow' hrun hblk hX hg4 hr4
   go_wp2
   refine ⟨⟨ts3, acc ++ [a3], HS3.out, by simp; omega, HG4.out, HR4.out, HRW.out⟩, ?_⟩
   omega
theorem IsX.more {X : Nat → Prop} {w : World} {d d' : Nat} (hd : d ≤ d') : ∀ {v : Value} {x : Tm}, IsX X w d v x → IsX X w d' v x := by
 induction d generalizing d' with
 | zero => intro v x h; cases h
 | succ d ih =>
  intro v x h
  obtain ⟨d', rfl⟩ : ∃ m, d' = m + 1 := ⟨d' - 1, by omega⟩
  obtain ⟨k, p, n, N, kids⟩ := x
  obtain ⟨q, c, h1, h2, h3, h4, h5⟩ := h
  refine ⟨q, c, h1, h2, h3, h4, fun i y hy => ?_⟩
  obtain ⟨b, o, k', p', n', N', s', e, hX, ha, ht⟩ := h5 i y hy
  exact ⟨b, o, k', p', n', N', s', e, hX, ha, ih (by omega) ht⟩
theorem bnd_id {α : Type} (x : Res α) : bnd x (fun a ts => .ok (a, ts)) = x := by cases x <;> rfl
theorem TmV.up {w w1 w2 : World} {v : Value} {t : Tm} (h : TmV w1 w2 v t) (hs : w.heap.size ≤ w1.heap.size) : TmV w w2 v t :=
 let ⟨d, h⟩ := h; ⟨d, h.move fun b hb _ => ⟨Nat.le_trans hs hb, rfl⟩⟩
theorem TmV.move {r : Nat} {w w1 w2 : World} {v : Value} {t : Tm} (h : TmV w w1 v t) (hr : r < w.heap.size) (hg : Rg r w1 w2) : TmV w w2 v t :=
 let ⟨d, h⟩ := h; ⟨d, h.move fun b hb hl => ⟨hb, hg.same hl (by unfold New at hb; omega)⟩⟩
theorem RowG.weak {α : Type} {K : Mem α} {base base' : Nat} {w : World} {sv : Value} {l : List α} (h : RowG K base w sv l) (hb : base' ≤ base) : RowG K base' w sv l := by
 obtain ⟨cl, hl, ⟨h1, h2⟩, hd⟩ := h
 refine ⟨cl, hl, ⟨h1, ?_⟩, fun i a ha => ?_⟩
 · rcases h2 with h2 | ⟨g, cap, cur, e1, e2, e3⟩
   · exact .inl h2
   · exact .inr ⟨g, cap, cur, e1, Nat.le_trans hb e2, e3⟩
 · obtain ⟨cs, e1, e2⟩ := hd i a ha
   exact ⟨cs, e1, K.move (fun b hX _ => ⟨⟨Nat.le_trans hb hX.1, hX.2⟩, rfl⟩) e2⟩
theorem LsV.up {w w1 w2 : World} {v : Value} {l : List Tm} (h : LsV w1 w2 v l) (hs : w.heap.size ≤ w1.heap.size) : LsV w w2 v l :=
 ⟨h.1.weak hs, h.2⟩
theorem LsV.sl {w w1 : World} {v : Value} {l : List Tm} (h : LsV w w1 v l) : SlG termK (New w) w1 v l := h.1.all fun _ _ _ => rfl
theorem LsV.move {r : Nat} {w w1 w2 : World} {v : Value} {l : List Tm} (h : LsV w w1 v l) (hr : r < w.heap.size) (hg : Rg r w1 w2) : LsV w w2 v l :=
 ⟨h.1.move fun b hb hl => hg.same hl (by omega), h.2⟩
theorem LsV.nil (w w1 : World) : LsV w w1 (.slice none 0 0) [] := ⟨RowG.nil _ _ _, by simp⟩
theorem held_t (r E : Nat) (one : Ts → Res Tm) (n : Nat) (cap : Array Value) (w : World) (ts : Ts) (hR : Rd r E w ts) (hm : Mono one) (hcf : ∀ W, (callFunc n cap).run Tryz.prog W = .ok (.enter n cap) W) (HC : OneT r E one n cap w) :
 Calls Tryz.prog 193 #[rp r, .func (.func n) #[] cap] w (Got r E LsV w (heldP E one ts)) := by
 have HC := Hd HC
 have HR0 := Hd hR
 have hrl := hR.lt
 have HG0 : RowKit.Hid (Rg r w w) := Hd (Rg.refl r w)
 obtain ⟨S, hS⟩ : ∃ S, S = heldP E one ts := ⟨_, rfl⟩
 have HS0 := Hd hS
 rw [← hS]
 unfold heldP at HS0
 clear hR hS
 have HK := Hd (fun W hW => skipSign_any r E sOpen ts W hW)
 cases hB : isB 8 sOpen ts with
 | false =>
  have h := HS0.out
  rw [hB, if_neg (by decide)] at h
  rw [hB] at HK
  subst h
  clear HS0
  go_enter Tryz.func193, Tryz.ntmps193
  go_wp2_with (go_at_call 139; (with_reducible refine (HK.out _ Q16).mono ?_); rintro e w1 ⟨rfl, hg, hr⟩; have HG1 : RowKit.Hid (Rg r w w1) := Hd Q7; have HR1 : RowKit.Hid (Rd r E w1 ts) := Hd hr; clear hg hr)
  go_ret
  exact ⟨HG1.out, ⟨_, rfl, LsV.nil _ _⟩, HR1.out⟩
 | true =>
  have h := HS0.out
  rw [hB, if_pos rfl] at h
  rw [hB] at HK
  have HS1 := Hd h
  clear HS0 h hB
  go_enter Tryz.func193, Tryz.ntmps193
  go_wp2_with (first
   | (go_at_call 139; (with_reducible refine (HK.out _ Q16).mono ?_); rintro e w1 ⟨rfl, hg, hr⟩; have HG1 : RowKit.Hid (Rg r w w1) := Hd Q7; have HR1 : RowKit.Hid (Rd r E w1 ts.tail) := Hd hr; clear hg hr)
   | (go_at_call 232; (with_reducible refine (several_t r E sComma one n cap _ _ Q14 hm hcf (HC.out.at HG1.out)).mono ?_); rintro e w2 h2; rcases h2.step HS1.out with ⟨v2, a2, ts2, rfl, hV, hR, hg, hS, hx⟩ | ⟨y, rfl, hg, hSE⟩; rotate_left; (have hGE : Rg r w w2 := Q5); rotate_left; (obtain ⟨q2, c2, hv⟩ := hV.1.shape; subst hv; have HV2 := Hd hV; have HL2 := Hd hV.2); (have HR2 := Hd hR; have HG2 : RowKit.Hid (Rg r w w2) := Hd Q5; have HS2 := Hd hS; have HX2 := Hd hx; have HD2 := Hd hg; clear hR hg hS hx hV))
   | (go_at_call 125; (with_reducible refine (sign_any r E sShut _ _ Q15).mono ?_); rintro e w3 h3; rcases h3.step HS2.out with ⟨v3, a3, ts3, rfl, hV, hR, hg, hS, hx⟩ | ⟨y, rfl, hg, hSE⟩; rotate_left; (have hGE : Rg r w w3 := Q4); rotate_left; (obtain rfl := hV); (have HR3 := Hd hR; have HG3 : RowKit.Hid (Rg r w w3) := Hd Q4; have HS3 := Hd hS; have HX3 := Hd hx; have HD3 := Hd hg; clear hR hg hS hx)))
  all_goals first | exact ⟨rfl, hGE, rfl⟩ | exact ⟨rfl, hGE, by rw [hSE]⟩ | skip
  go_ret
  have h := HS3.out
  exact ⟨HG3.out, by rw [h]; exact ⟨⟨_, rfl, (HV2.out.up HG1.out.size).move hrl HD3.out⟩, HR3.out⟩⟩
theorem opened_t (r E : Nat) (one : Ts → Res Tm) (n : Nat) (cap : Array Value) (w : World) (ts : Ts) (hR : Rd r E w ts) (hm : Mono one) (hcf : ∀ W, (callFunc n cap).run Tryz.prog W = .ok (.enter n cap) W) (HC : OneT r E one n cap w) :
 Calls Tryz.prog 190 #[rp r, .func (.func n) #[] cap] w (Got r E LsV w (openP E one ts)) := by
 have HC := Hd HC
 have HR0 := Hd hR
 have hrl := hR.lt
 have HG0 : RowKit.Hid (Rg r w w) := Hd (Rg.refl r w)
 obtain ⟨S, hS⟩ : ∃ S, S = openP E one ts := ⟨_, rfl⟩
 have HS0 := Hd hS
 rw [← hS]
 unfold openP at HS0
 clear hR hS
 go_enter Tryz.func190, Tryz.ntmps190
 go_wp2_with (first
  | (go_at_call 125; (with_reducible refine (sign_any r E sOpen _ _ Q16).mono ?_); rintro e w1 h1; rcases h1.step HS0.out with ⟨v1, a1, ts1, rfl, hV, hR, hg, hS, hx⟩ | ⟨y, rfl, hg, hSE⟩; rotate_left; (have hGE : Rg r w w1 := Q7); rotate_left; (obtain rfl := hV); (have HR1 := Hd hR; have HG1 : RowKit.Hid (Rg r w w1) := Hd Q7; have HS1 := Hd hS; have HX1 := Hd hx; have HD1 := Hd hg; clear hR hg hS hx))
  | (go_at_call 191; (with_reducible refine (is_any r E 8 sShut _ _ Q14).mono ?_); rintro e w2 ⟨rfl, hb⟩; have HG2 : RowKit.Hid (Rg r w w2) := Hd Q26; have HR2 : RowKit.Hid (Rd r E w2 ts1) := Hd (by first | exact HR1.out.below hb); have hS1 := HS1.out; cases hB : isB 8 sShut ts1 <;> (rw [hB] at hS1; first | rw [if_pos rfl] at hS1 | rw [if_neg (by decide)] at hS1) <;> (have HS2 := Hd hS1; clear hS1 hB hb))
  | (go_at_call 232; (with_reducible refine (several_t r E sComma one n cap _ _ Q15 hm hcf (HC.out.at HG2.out)).mono ?_); rintro e w3 h3; rcases h3.step (HS2.out.trans (bnd_id _).symm) with ⟨v3, a3, ts3, rfl, hV, hR, hg, hS, hx⟩ | ⟨y, rfl, hg, hSE⟩; rotate_left; (have hGE : Rg r w w3 := Q4); rotate_left; (obtain ⟨q3, c3, hv⟩ := hV.1.shape; subst hv; have HV3 := Hd hV; have HL3 := Hd hV.2); (have HR3 := Hd hR; have HG3 : RowKit.Hid (Rg r w w3) := Hd Q4; have HS3 := Hd hS; have HX3 := Hd hx; have HD3 := Hd hg; clear hR hg hS hx hV)))
 all_goals first | exact ⟨rfl, hGE, rfl⟩ | exact ⟨rfl, hGE, by rw [hSE]⟩ | skip
 all_goals go_ret
 · exact ⟨HG3.out, by rw [HS3.out]; exact ⟨⟨_, rfl, HV3.out.up HG2.out.size⟩, HR3.out⟩⟩
 · exact ⟨HG2.out, by rw [HS2.out]; exact ⟨⟨_, rfl, LsV.nil _ _⟩, HR2.out⟩⟩
theorem LsV.one {w w1 : World} {v : Value} {t : Tm} (h : LsV w w1 v [t]) : ∃ b o c k p n N s d, v = .slice (some ⟨b, o, none⟩) 1 c ∧ w.heap.size ≤ b ∧ b < w1.heap.size ∧ TAt w1 b o k p n N s ∧ IsX (New w) w1 d (tv k p n N s) t := by
 obtain ⟨q, c, hv, h2⟩ := h.sl
 subst hv
 obtain ⟨b, o, cs, rfl, hb, hc, k, p, n, N, s, d, rfl, hX⟩ := h2 0 t rfl
 have e : ∀ j, o + 0 * termK.size + j = o + j := fun j => by omega
 have ht : TAt w1 b o k p n N s := ⟨by have := hc 0 _ rfl; rwa [e] at this, by have := hc 1 _ rfl; rwa [e] at this, by have := hc 2 _ rfl; rwa [e] at this, by have := hc 3 _ rfl; rwa [e] at this, by have := hc 4 _ rfl; rwa [e] at this⟩
 exact ⟨b, o, c, k, p, n, N, s, d, rfl, hb, ht.lt, ht, hX⟩
theorem kids_of {X : Nat → Prop} {w : World} {s : Value} {l : List Tm} (h : SlG termK X w s l) (hl : l.length ≤ 20000) {k N : Int} {p n : ByteArray} (hp : p.size ≤ 4194304) (hn : n.size ≤ 4194304) : ∃ d, IsX X w d (tv k p n N s) (.mk k p n N l) := by
 obtain ⟨q, c, rfl, h⟩ := h
 have hd : ∃ D, ∀ (i : Nat) (a : Tm), l[i]? = some a → ∃ (b o : Nat) (k' : Int) (p' n' : ByteArray) (N' : Int) (s' : Value), q = some ⟨b, o, none⟩ ∧ X b ∧ TAt w b (o + i * 5) k' p' n' N' s' ∧ IsX X w D (tv k' p' n' N' s') a := by
  have : ∀ m, ∃ D, ∀ (i : Nat) (a : Tm), i < m → l[i]? = some a → ∃ (b o : Nat) (k' : Int) (p' n' : ByteArray) (N' : Int) (s' : Value), q = some ⟨b, o, none⟩ ∧ X b ∧ TAt w b (o + i * 5) k' p' n' N' s' ∧ IsX X w D (tv k' p' n' N' s') a := by
   intro m
   induction m with
   | zero => exact ⟨0, fun i a hi => by omega⟩
   | succ m ih =>
    obtain ⟨D, ih⟩ := ih
    cases hm : l[m]? with
    | none =>
     refine ⟨D, fun i a hi ha => ih i a ?_ ha⟩
     rcases Nat.lt_or_ge i m with h1 | h1
     · exact h1
     · obtain rfl : i = m := by omega
       rw [hm] at ha; cases ha
    | some x =>
     obtain ⟨b, o, cs, e, hX, hc, k', p', n', N', s', d, rfl, ht⟩ := h m x hm
     refine ⟨max D d, fun i a hi ha => ?_⟩
     rcases Nat.lt_or_ge i m with h1 | h1
     · obtain ⟨b, o, k', p', n', N', s', e, h1, h2, h3⟩ := ih i a h1 ha
       exact ⟨b, o, k', p', n', N', s', e, h1, h2, h3.more (Nat.le_max_left ..)⟩
     · obtain rfl : i = m := by omega
       rw [hm] at ha
       cases ha
       exact ⟨b, o, k', p', n', N', s', e, hX, ⟨hc 0 _ rfl, hc 1 _ rfl, hc 2 _ rfl, hc 3 _ rfl, hc 4 _ rfl⟩, ht.more (Nat.le_max_right ..)⟩
  obtain ⟨D, hD⟩ := this l.length
  exact ⟨D, fun i a ha => hD i a (List.getElem?_eq_some_iff.1 ha).1 ha⟩
 obtain ⟨D, hD⟩ := hd
 refine ⟨D + 1, q, c, rfl, by unfold maxLen; omega, by unfold maxLen; omega, by unfold maxLen; omega, fun i x hx => ?_⟩
 obtain ⟨b, o, k', p', n', N', s', e, h1, h2, h3⟩ := hD i x hx
 exact ⟨b, o, k', p', n', N', s', e, h1, h2, h3⟩
theorem closed_t (r E : Nat) (kind : Int) (l : List Tm) (v : Value) (w0 w : World) (hr0 : r < w0.heap.size) (hz0 : w0.heap.size ≤ w.heap.size) (hL : LsV w0 w v l) (ts : Ts) (hR : Rd r E w ts) :
 Calls Tryz.prog 192 #[rp r, .int .i64 kind, v] w (Got r E (fun _ w' v t => TmV w0 w' v t) w (shutP E kind l ts)) := by
 have HL := Hd hL
 have HR0 := Hd hR
 have hrl := hR.lt
 have HG0 : RowKit.Hid (Rg r w w) := Hd (Rg.refl r w)
 obtain ⟨S, hS⟩ : ∃ S, S = shutP E kind l ts := ⟨_, rfl⟩
 have HS0 := Hd hS
 rw [← hS]
 unfold shutP at HS0
 by_cases h1 : l.length = 1
 · obtain ⟨t, rfl⟩ : ∃ t, l = [t] := List.length_eq_one_iff.1 h1
   obtain ⟨b, o, c, tk, tp, tn, tN, tS, d, rfl, hb0, hbl, ht, hX⟩ := hL.one
   obtain ⟨_, _, _, _, tq, tl, tc, he⟩ := hX.shape
   obtain rfl : tS = .slice tq tl tc := by cases he; rfl
   clear he
   have HT := Hd ht
   have HX := Hd hX
   clear hL hR hS h1 ht hX
   go_enter Tryz.func192, Tryz.ntmps192
   go_wp2_with (go_at_call 125; (with_reducible refine (sign_any r E sShut _ _ Q16).mono ?_); rintro e w1 h1; rcases h1.step HS0.out with ⟨v1, a1, ts1, rfl, hV, hR, hg, hS, hx⟩ | ⟨y, rfl, hg, hSE⟩; rotate_left; (have hGE : Rg r w w1 := Q7); rotate_left; (obtain rfl := hV); (have HR1 := Hd hR; have HG1 : RowKit.Hid (Rg r w w1) := Hd Q7; have HS1 := Hd hS; have HX1 := Hd hx; have HD1 := Hd hg; clear hR hg hS hx); (have ht1 := (HT.out.move_alloc _).rg HD1.out (by omega); obtain ⟨t0, t1, t2, t3, t4⟩ := ht1; have HB1 := Hd (HD1.out.keep (hb_new _ _) (by omega)); obtain ⟨x0, x1, x2, x3, x4, y0, y1, y2, y3, y4⟩ := box5 HB1.out))
   all_goals first | exact ⟨rfl, hGE, rfl⟩ | exact ⟨rfl, hGE, by rw [hSE]⟩ | skip
   have hT1 := (HT.out.move_alloc (.cells #[.int .i64 0, .string ⟨#[]⟩, .string ⟨#[]⟩, .int .i64 0, .slice none 0 0] 24)).rg HD1.out (by omega)
   refine bodyPost_ret (v := tv tk tp tn tN (.slice tq tl tc)) (res_term rfl rfl (set5 HB1.out _ _ _ _ _)) rfl ⟨?_, ?_⟩
   · exact ((((HG1.out.set_new (Nat.le_refl _) 0 _).set_new (Nat.le_refl _) 1 _).set_new (Nat.le_refl _) 2 _).set_new (Nat.le_refl _) 3 _).set_new (Nat.le_refl _) 4 _
   · rw [HS1.out]
     refine ⟨⟨_, rfl, d, HX.out.move fun b' hb' hl' => ⟨hb', ?_⟩⟩, ((((HR1.out.set_new hrl 0 _).set_new hrl 1 _).set_new hrl 2 _).set_new hrl 3 _).set_new hrl 4 _⟩
     unfold New at hb'
     have hne : b' ≠ w.heap.size := by omega
     rw [Below.heap_setCell _ _ _ _ hne, Below.heap_setCell _ _ _ _ hne, Below.heap_setCell _ _ _ _ hne, Below.heap_setCell _ _ _ _ hne, Below.heap_setCell _ _ _ _ hne, HD1.out.same Q69 (by omega), Below.heap_alloc _ _ _ hl']
 · have hsh : shutT kind l = .mk kind e0 e0 0 l := by
    unfold shutT
    match l, h1 with
    | [], _ => rfl
    | [_], h => exact absurd rfl h
    | _ :: _ :: _, _ => rfl
   have hd1 : ((l.length : Int) == 1) = false := by rw [beq_eq_false_iff_ne]; omega
   obtain ⟨lq, lc, rfl⟩ : ∃ q c, v = .slice q l.length c := hL.1.shape
   have HSH := Hd hsh
   clear hL hR hS h1 hsh
   go_enter Tryz.func192, Tryz.ntmps192
   go_wp2_with (go_at_call 125; (with_reducible refine (sign_any r E sShut _ _ Q16).mono ?_); rintro e w1 h1; rcases h1.step HS0.out with ⟨v1, a1, ts1, rfl, hV, hR, hg, hS, hx⟩ | ⟨y, rfl, hg, hSE⟩; rotate_left; (have hGE : Rg r w w1 := Q7); rotate_left; (obtain rfl := hV); (have HR1 := Hd hR; have HG1 : RowKit.Hid (Rg r w w1) := Hd Q7; have HS1 := Hd hS; have HX1 := Hd hx; have HD1 := Hd hg; clear hR hg hS hx); (have HB1 := Hd (HD1.out.keep (hb_new _ _) (by omega)); obtain ⟨x0, x1, x2, x3, x4, y0, y1, y2, y3, y4⟩ := box5 HB1.out))
   all_goals first | exact ⟨rfl, hGE, rfl⟩ | exact ⟨rfl, hGE, by rw [hSE]⟩ | skip
   refine bodyPost_ret (v := tv kind ⟨#[]⟩ ⟨#[]⟩ 0 (.slice lq l.length lc)) (res_term rfl rfl (set5 HB1.out _ _ _ _ _)) rfl ⟨?_, ?_⟩
   · exact ((((HG1.out.set_new (Nat.le_refl _) 0 _).set_new (Nat.le_refl _) 1 _).set_new (Nat.le_refl _) 2 _).set_new (Nat.le_refl _) 3 _).set_new (Nat.le_refl _) 4 _
   · rw [HS1.out]
     refine ⟨⟨_, rfl, ?_⟩, ((((HR1.out.set_new hrl 0 _).set_new hrl 1 _).set_new hrl 2 _).set_new hrl 3 _).set_new hrl 4 _⟩
     rw [HSH.out]
     refine kids_of (HL.out.sl.move fun b' hb' hl' => ⟨hb', ?_⟩) (by have := HL.out.2; omega) (by decide) (by decide)
     unfold New at hb'
     have hne : b' ≠ w.heap.size := by omega
     rw [Below.heap_setCell _ _ _ _ hne, Below.heap_setCell _ _ _ _ hne, Below.heap_setCell _ _ _ _ hne, Below.heap_setCell _ _ _ _ hne, Below.heap_setCell _ _ _ _ hne, HD1.out.same Q69 (by omega), Below.heap_alloc _ _ _ hl']
def StV (_ _ : World) (v : Value) (s : ByteArray) : Prop := v = .string s ∧ s.size ≤ 4194304
theorem Rd.tx {r E : Nat} {w : World} {ts : Ts} (h : Rd r E w ts) : (Proofs.YtmkjalnlldpdcaaGreatDoor.tx ts).size ≤ 4194304 := by
 cases ts with
 | nil => decide
 | cons t ts =>
  obtain ⟨b, o, c, _, _, _, _, _, hz, _⟩ := h.cons
  exact hz
theorem take_st (r E : Nat) (k : Int) (ts : Ts) (hk : k ≠ 0) (w : World) (hR : Rd r E w ts) : Calls Tryz.prog 180 #[rp r, .int .i64 k] w (Got r E StV w (takeP E k ts)) := by
 refine (take_any r E k ts hk w hR).mono ?_
 rintro e w' h
 by_cases hK : kd ts = k
 · have e1 : takeP E k ts = .ok (Proofs.YtmkjalnlldpdcaaGreatDoor.tx ts, ts.tail) := if_pos hK
   rw [e1] at h ⊢
   obtain ⟨hg, ⟨v, rfl, rfl⟩, h2⟩ := h
   exact ⟨hg, ⟨_, rfl, rfl, hR.tx⟩, h2⟩
 · have e1 : takeP E k ts = .error ((nx E ts).2, 10) := if_neg hK
   rw [e1] at h ⊢
   exact h
theorem leafX (X : Nat → Prop) (w : World) (k N : Int) (p n : ByteArray) (hp : p.size ≤ 4194304) (hn : n.size ≤ 4194304) : IsX X w 1 (tv k p n N (.slice none 0 0)) (.mk k p n N []) :=
 ⟨none, 0, rfl, by unfold maxLen; omega, by unfold maxLen; omega, by simp, fun i x h => by simp at h⟩
def set5w (W : World) (g : Nat) (k : Int) (p n : ByteArray) (N : Int) (s : Value) : World :=
 (((((W.setCell ⟨g, 0, none⟩ (.int .i64 k)).setCell ⟨g, 1, none⟩ (.string p)).setCell ⟨g, 2, none⟩ (.string n)).setCell ⟨g, 3, none⟩ (.int .i64 N)).setCell ⟨g, 4, none⟩ s)
theorem set5w_other {W : World} {g : Nat} {k N : Int} {p n : ByteArray} {s : Value} {b : Nat} (hne : b ≠ g) : (set5w W g k p n N s).heap[b]? = W.heap[b]? := by
 unfold set5w
 rw [Below.heap_setCell _ _ _ _ hne, Below.heap_setCell _ _ _ _ hne, Below.heap_setCell _ _ _ _ hne, Below.heap_setCell _ _ _ _ hne, Below.heap_setCell _ _ _ _ hne]
theorem fin5 {fn : Func} {i : Nat} (hres : fn.results = #[ResultVar.cell i 24]) {a : Act} (hd : a.defers = []) {r E g : Nat} {w0 w W : World} {ts : Ts} {k N : Int} {p n : ByteArray} {s : Value} {t : Tm} {S : Res Tm} {c0 c1 c2 c3 c4 : Value} {T : TypeId}
 (hp : a.tmps[i]?.getD undef = .pointer (some ⟨g, 0, none⟩)) (HB : W.heap[g]? = some (.cells #[c0, c1, c2, c3, c4] T (0, 0))) (hg : w.heap.size ≤ g) (hG : Rg r w W) (hr : r < w.heap.size) (hR : Rd r E W ts) (hS : S = .ok (t, ts))
 (nb : Nat) (hnb : g < nb) (h0 : w0.heap.size ≤ nb) (hV : ∃ d, IsX (fun b => nb ≤ b) W d (tv k p n N s) t) :
 bodyPost Tryz.prog fn (Got r E (fun _ w' v t => TmV w0 w' v t) w S) Exit.ret a (set5w W g k p n N s) := by
 refine bodyPost_ret (v := tv k p n N s) (res_term hres hp (set5 HB _ _ _ _ _)) hd ⟨?_, ?_⟩
 · exact ((((hG.set_new hg 0 _).set_new hg 1 _).set_new hg 2 _).set_new hg 3 _).set_new hg 4 _
 · rw [hS]
   obtain ⟨d, hX⟩ := hV
   refine ⟨⟨_, rfl, d, hX.move fun b hb hl => ⟨Nat.le_trans h0 hb, set5w_other (by omega)⟩⟩, ?_⟩
   have hrg : r < g := by omega
   exact ((((hR.set_new hrg 0 _).set_new hrg 1 _).set_new hrg 2 _).set_new hrg 3 _).set_new hrg 4 _
theorem fin_t {fn : Func} {i : Nat} (hres : fn.results = #[ResultVar.cell i 24]) {a : Act} (hd : a.defers = []) {r E g : Nat} {w0 w Wf : World} {ts : Ts} {k N : Int} {p n : ByteArray} {s : Value} {t : Tm} {S : Res Tm} {T : TypeId} {f : Nat × Nat}
 (hp : a.tmps[i]?.getD undef = .pointer (some ⟨g, 0, none⟩)) (HB : Wf.heap[g]? = some (.cells #[.int .i64 k, .string p, .string n, .int .i64 N, s] T f)) (hG : Rg r w Wf) (hR : Rd r E Wf ts) (hS : S = .ok (t, ts)) (hV : TmV w0 Wf (tv k p n N s) t) :
 bodyPost Tryz.prog fn (Got r E (fun _ w' v t => TmV w0 w' v t) w S) Exit.ret a Wf := by
 refine bodyPost_ret (v := tv k p n N s) (res_term hres hp HB) hd ⟨hG, ?_⟩
 rw [hS]
 exact ⟨⟨_, rfl, hV⟩, hR⟩
theorem set5w_size (W : World) (g : Nat) (k : Int) (p n : ByteArray) (N : Int) (s : Value) : (set5w W g k p n N s).heap.size = W.heap.size := by simp [set5w, World.setCell]
theorem Rg.set5w {r g : Nat} {w W : World} (h : Rg r w W) (hg : w.heap.size ≤ g) (k : Int) (p n : ByteArray) (N : Int) (s : Value) : Rg r w (set5w W g k p n N s) :=
 ((((h.set_new hg 0 _).set_new hg 1 _).set_new hg 2 _).set_new hg 3 _).set_new hg 4 _
theorem Rd.set5w {r E g : Nat} {W : World} {ts : Ts} (h : Rd r E W ts) (hg : r < g) (k : Int) (p n : ByteArray) (N : Int) (s : Value) : Rd r E (set5w W g k p n N s) ts :=
 ((((h.set_new hg 0 _).set_new hg 1 _).set_new hg 2 _).set_new hg 3 _).set_new hg 4 _
theorem set5w_box {W : World} {g : Nat} {c0 c1 c2 c3 c4 : Value} {T : TypeId} {f : Nat × Nat} (h : W.heap[g]? = some (.cells #[c0, c1, c2, c3, c4] T f)) (k : Int) (p n : ByteArray) (N : Int) (s : Value) : (set5w W g k p n N s).heap[g]? = some (.cells #[.int .i64 k, .string p, .string n, .int .i64 N, s] T f) := set5 h _ _ _ _ _
theorem set5a_other {W : World} {g : Nat} {k N : Int} {p n : ByteArray} {s : Value} {o : Obj} {b : Nat} (hne : b ≠ g) (hb : b < W.heap.size) : ((set5w W g k p n N s).alloc o).heap[b]? = W.heap[b]? := by
 rw [Below.heap_alloc _ _ _ (by rw [set5w_size]; exact hb), set5w_other hne]
theorem set5a_new (W : World) (g : Nat) (k N : Int) (p n : ByteArray) (s : Value) (o : Obj) : ((set5w W g k p n N s).alloc o).heap[W.heap.size]? = some o := by
 have h := hb_new (set5w W g k p n N s) o
 rw [set5w_size] at h
 exact h
theorem SlG.two {X : Nat → Prop} {w : World} {b c : Nat} {k1 N1 k2 N2 : Int} {p1 n1 p2 n2 : ByteArray} {s1 s2 : Value} {t1 t2 : Tm} {T : TypeId} {f : Nat × Nat} (hX : X b)
 (hb : w.heap[b]? = some (.cells #[.int .i64 k1, .string p1, .string n1, .int .i64 N1, s1, .int .i64 k2, .string p2, .string n2, .int .i64 N2, s2] T f))
 (h1 : ∃ d, IsX X w d (tv k1 p1 n1 N1 s1) t1) (h2 : ∃ d, IsX X w d (tv k2 p2 n2 N2 s2) t2) : SlG termK X w (.slice (some ⟨b, 0, none⟩) 2 c) [t1, t2] := by
 obtain ⟨d1, h1⟩ := h1
 obtain ⟨d2, h2⟩ := h2
 refine ⟨_, _, rfl, fun i a ha => ?_⟩
 match i, ha with
 | 0, ha =>
  obtain rfl : t1 = a := by simpa using ha
  refine ⟨b, 0, _, rfl, hX, fun j u hu => ?_, _, _, _, _, _, d1, rfl, h1⟩
  have hj : j < 5 := by have := (List.getElem?_eq_some_iff.1 hu).1; simpa using this
  have e : 0 + 0 * termK.size + j = j := by omega
  rw [e, hb_cell hb, ← hu]
  match j, hj with
  | 0, _ => rfl
  | 1, _ => rfl
  | 2, _ => rfl
  | 3, _ => rfl
  | 4, _ => rfl
 | 1, ha =>
  obtain rfl : t2 = a := by simpa using ha
  refine ⟨b, 0, _, rfl, hX, fun j u hu => ?_, _, _, _, _, _, d2, rfl, h2⟩
  have hj : j < 5 := by have := (List.getElem?_eq_some_iff.1 hu).1; simpa using this
  have e : 0 + 1 * termK.size + j = 5 + j := by show 0 + 1 * 5 + j = 5 + j; omega
  rw [e, hb_cell hb, ← hu]
  match j, hj with
  | 0, _ => rfl
  | 1, _ => rfl
  | 2, _ => rfl
  | 3, _ => rfl
  | 4, _ => rfl
 | i + 2, ha => simp at ha
theorem constructor_t (kind : Int) (p : ByteArray) (hp : p.size ≤ 4194304) (r E : Nat) (one : Ts → Res Tm) (n : Nat) (cap : Array Value) (w : World) (ts : Ts) (hR : Rd r E w ts) (hm : Mono one) (hcf : ∀ W, (callFunc n cap).run Tryz.prog W = .ok (.enter n cap) W) (HC : OneT r E one n cap w) :
 Calls Tryz.prog 189 #[rp r, .int .i64 kind, .string p, .func (.func n) #[] cap] w (Got r E TmV w (conP E kind p one ts)) := by
 have HC := Hd HC
 have HR0 := Hd hR
 have hrl := hR.lt
 have HG0 : RowKit.Hid (Rg r w w) := Hd (Rg.refl r w)
 obtain ⟨S, hS⟩ : ∃ S, S = conP E kind p one ts := ⟨_, rfl⟩
 have HS0 := Hd hS
 rw [← hS]
 unfold conP at HS0
 clear hR hS
 go_enter Tryz.func189, Tryz.ntmps189
 go_wp2_with (first
  | (go_at_call 180; (with_reducible refine (take_st r E 2 _ (by decide) _ Q16).mono ?_); rintro e w1 h1; rcases h1.step HS0.out with ⟨v1, a1, ts1, rfl, hV, hR, hg, hS, hx⟩ | ⟨y, rfl, hg, hSE⟩; rotate_left; (have hGE : Rg r w w1 := Q7); rotate_left; (obtain ⟨rfl, hst1⟩ := hV); (have HR1 := Hd hR; have HG1 : RowKit.Hid (Rg r w w1) := Hd Q7; have HS1 := Hd hS; have HX1 := Hd hx; have HD1 := Hd hg; clear hR hg hS hx); (have HBr1 := Hd (HD1.out.keep (hb_new _ _) (by omega))); (have hz1 := HD1.out.size; rw [World.size_alloc] at hz1))
  | (go_at_call 193; (with_reducible refine (held_t r E one n cap _ _ Q14 hm hcf (HC.out.at (by first | exact HG1.out | exact HG1.out.alloc _ | exact (HG1.out.alloc _).alloc _))).mono ?_); rintro e w2 h2; rcases h2.step HS1.out with ⟨v2, a2, ts2, rfl, hV, hR, hg, hS, hx⟩ | ⟨y, rfl, hg, hSE⟩; rotate_left; (have hGE : Rg r w w2 := Q5); rotate_left; (obtain ⟨q2, c2, hv⟩ := hV.1.shape; subst hv; have HV2 := Hd hV; have HL2 := Hd hV.2); (have HR2 := Hd hR; have HG2 : RowKit.Hid (Rg r w w2) := Hd Q5; have HS2 := Hd hS; have HX2 := Hd hx; have HD2 := Hd hg; clear hR hg hS hx hV); (have HBr2 := Hd (HD2.out.keep HBr1.out (by omega)); obtain ⟨x0, x1, x2, x3, x4, y0, y1, y2, y3, y4⟩ := box5 HBr2.out)))
 all_goals first | exact ⟨rfl, hGE, rfl⟩ | exact ⟨rfl, hGE, by rw [hSE]⟩ | skip
 exact fin5 (w0 := w) rfl rfl rfl HBr2.out (Nat.le_refl _) HG2.out hrl HR2.out HS2.out w1.heap.size hz1 (by omega) (kids_of HV2.out.sl (by have := HV2.out.2; omega) hp hst1)
theorem typeAtom_t (r E : Nat) (one : Ts → Res Tm) (n : Nat) (cap : Array Value) (w : World) (ts : Ts) (hR : Rd r E w ts) (hm : Mono one) (hcf : ∀ W, (callFunc n cap).run Tryz.prog W = .ok (.enter n cap) W) (HC : OneT r E one n cap w) :
 Calls Tryz.prog 137 #[rp r, .func (.func n) #[] cap] w (Got r E TmV w (tyAtomP E one ts)) := by
 have HC := Hd HC
 have HR0 := Hd hR
 have hrl := hR.lt
 have HG0 : RowKit.Hid (Rg r w w) := Hd (Rg.refl r w)
 obtain ⟨S, hS⟩ : ∃ S, S = tyAtomP E one ts := ⟨_, rfl⟩
 have HS0 := Hd hS
 rw [← hS]
 unfold tyAtomP at HS0
 clear hR hS
 have HN0 := Hd (fun W hW => next_any r E ts W hW)
 have hnx : (nx E ts).1 = (nx 0 ts).1 := by cases ts <;> rfl
 unfold tokV at HN0
 unfold kd at HS0
 rw [← hnx] at HS0
 clear hnx
 generalize nx E ts = T at *
 obtain ⟨⟨nk, nz, nn⟩, na⟩ := T
 have HN : RowKit.Hid (∀ W, Rd r E W ts → Calls Tryz.prog 173 #[rp r] W fun e w' => e = .returned (.agg #[.int .i64 nk, .string nz, .int .i64 nn, .int .i64 (na : Nat)]) ∧ Below W.heap.size W w') := HN0
 clear HN0
 have hf0 := fld0 nk nn na nz
 by_cases h3 : nk = 3
 · have h := HS0.out
   rw [if_pos h3] at h
   have HSa := Hd h
   subst h3
   clear HS0 h
   have HS0 := HSa
   go_enter Tryz.func137, Tryz.ntmps137
   go_wp2_with (first
    | (go_at_call 173; (with_reducible refine (HN.out _ Q16).mono ?_); rintro e w1 ⟨rfl, hb⟩; have HG1 : RowKit.Hid (Rg r w w1) := Hd Q27; have HR1 : RowKit.Hid (Rd r E w1 ts) := Hd Q35; have HD1 := Hd (Rg.of_below (r := r) hb); have HS1 := HS0; (have HBr1 := Hd (HD1.out.keep (hb_new _ _) (by omega))); (have hz1 := HD1.out.size; rw [World.size_alloc] at hz1); clear hb)
    | (go_at_call 180; (with_reducible refine (take_st r E 3 _ (by decide) _ Q14).mono ?_); rintro e w2 h2; rcases h2.step HS1.out with ⟨v2, a2, ts2, rfl, hV, hR, hg, hS, hx⟩ | ⟨y, rfl, hg, hSE⟩; rotate_left; (have hGE : Rg r w w2 := Q5); rotate_left; (obtain ⟨rfl, hst2⟩ := hV); (have HR2 := Hd hR; have HG2 : RowKit.Hid (Rg r w w2) := Hd Q5; have HS2 := Hd hS; have HX2 := Hd hx; have HD2 := Hd hg; clear hR hg hS hx); (have HBr2 := Hd (HD2.out.keep HBr1.out (by omega)); obtain ⟨x0, x1, x2, x3, x4, y0, y1, y2, y3, y4⟩ := box5 HBr2.out)))
   all_goals first | exact ⟨rfl, hGE, rfl⟩ | exact ⟨rfl, hGE, by rw [hSE]⟩ | skip
   have hz2 := HD2.out.size
   exact fin5 (w0 := w) rfl rfl rfl HBr2.out (Nat.le_refl _) HG2.out hrl HR2.out HS2.out w2.heap.size (by omega) (by omega) ⟨_, leafX _ _ _ _ _ _ (by decide) hst2⟩
 by_cases h2 : nk = 2
 · have h := HS0.out
   rw [if_neg h3, if_pos h2] at h
   have HSa := Hd h
   subst h2
   clear HS0 h h3
   have HS0 := HSa
   go_enter Tryz.func137, Tryz.ntmps137
   go_wp2_with (first
    | (go_at_call 173; (with_reducible refine (HN.out _ Q16).mono ?_); rintro e w1 ⟨rfl, hb⟩; have HG1 : RowKit.Hid (Rg r w w1) := Hd Q27; have HR1 : RowKit.Hid (Rd r E w1 ts) := Hd Q35; have HD1 := Hd (Rg.of_below (r := r) hb); have HS1 := HS0; (have HBr1 := Hd (HD1.out.keep (hb_new _ _) (by omega))); (have hz1 := HD1.out.size; rw [World.size_alloc] at hz1); clear hb)
    | (go_at_call 180; (with_reducible refine (take_st r E 2 _ (by decide) _ Q14).mono ?_); rintro e w2 h2; rcases h2.step HS1.out with ⟨v2, a2, ts2, rfl, hV, hR, hg, hS, hx⟩ | ⟨y, rfl, hg, hSE⟩; rotate_left; (have hGE : Rg r w w2 := Q5); rotate_left; (obtain ⟨rfl, hst2⟩ := hV); (have HR2 := Hd hR; have HG2 : RowKit.Hid (Rg r w w2) := Hd Q5; have HS2 := Hd hS; have HX2 := Hd hx; have HD2 := Hd hg; clear hR hg hS hx); (have HBr2 := Hd (HD2.out.keep HBr1.out (by omega))))
    | (go_at_call 125; (with_reducible refine (sign_any r E sDot _ _ Q15).mono ?_); rintro e w3 h3; rcases h3.step HS2.out with ⟨v3, a3, ts3, rfl, hV, hR, hg, hS, hx⟩ | ⟨y, rfl, hg, hSE⟩; rotate_left; (have hGE : Rg r w w3 := Q4); rotate_left; (obtain rfl := hV); (have HR3 := Hd hR; have HG3 : RowKit.Hid (Rg r w w3) := Hd Q4; have HS3 := Hd hS; have HX3 := Hd hx; have HD3 := Hd hg; clear hR hg hS hx); (have HBr3 := Hd (HD3.out.keep HBr2.out (by omega))); (have HS3b := HS3; unfold tyConP at HS3b; clear HS3; have HS3 := HS3b))
    | (go_at_call 180; (with_reducible refine (take_st r E 1 _ (by decide) _ Q18).mono ?_); rintro e w4 h4; rcases h4.step HS3.out with ⟨v4, a4, ts4, rfl, hV, hR, hg, hS, hx⟩ | ⟨y, rfl, hg, hSE⟩; rotate_left; (have hGE : Rg r w w4 := Q8); rotate_left; (obtain ⟨rfl, hst4⟩ := hV); (have HR4 := Hd hR; have HG4 : RowKit.Hid (Rg r w w4) := Hd Q8; have HS4 := Hd hS; have HX4 := Hd hx; have HD4 := Hd hg; clear hR hg hS hx); (have HBr4 := Hd (HD4.out.keep HBr3.out (by omega))); (have hz4 := HG4.out.size; have hz4b := HD2.out.size; have hz4c := HD3.out.size; have hz4d := HD4.out.size))
    | (go_at_call 193; (with_reducible refine (held_t r E one n cap _ _ Q17 hm hcf (HC.out.at (by first | exact HG4.out | exact HG4.out.alloc _ | exact (HG4.out.alloc _).alloc _))).mono ?_); rintro e w5 h5; rcases h5.step HS4.out with ⟨v5, a5, ts5, rfl, hV, hR, hg, hS, hx⟩ | ⟨y, rfl, hg, hSE⟩; rotate_left; (have hGE : Rg r w w5 := Q6); rotate_left; (obtain ⟨q5, c5, hv⟩ := hV.1.shape; subst hv; have HV5 := Hd hV; have HL5 := Hd hV.2); (have HR5 := Hd hR; have HG5 : RowKit.Hid (Rg r w w5) := Hd Q6; have HS5 := Hd hS; have HX5 := Hd hx; have HD5 := Hd hg; clear hR hg hS hx hV); (have HBr5 := Hd (HD5.out.keep HBr4.out (by omega)); obtain ⟨x0, x1, x2, x3, x4, y0, y1, y2, y3, y4⟩ := box5 HBr5.out)))
   all_goals first | exact ⟨rfl, hGE, rfl⟩ | exact ⟨rfl, hGE, by rw [hSE]⟩ | skip
   exact fin5 (w0 := w) rfl rfl rfl HBr5.out (Nat.le_refl _) HG5.out hrl HR5.out HS5.out w4.heap.size (by omega) (by omega) (kids_of HV5.out.sl (by have := HV5.out.2; omega) hst2 hst4)
 by_cases h1 : nk = 1
 · have h := HS0.out
   rw [if_neg h3, if_neg h2, if_pos h1] at h
   unfold tyConP at h
   have HSa := Hd h
   subst h1
   clear HS0 h h3 h2
   have HS0 := HSa
   go_enter Tryz.func137, Tryz.ntmps137
   go_wp2_with (first
    | (go_at_call 173; (with_reducible refine (HN.out _ Q16).mono ?_); rintro e w1 ⟨rfl, hb⟩; have HG1 : RowKit.Hid (Rg r w w1) := Hd Q27; have HR1 : RowKit.Hid (Rd r E w1 ts) := Hd Q35; have HD1 := Hd (Rg.of_below (r := r) hb); have HS1 := HS0; (have HBr1 := Hd (HD1.out.keep (hb_new _ _) (by omega))); (have hz1 := HD1.out.size; rw [World.size_alloc] at hz1); clear hb)
    | (go_at_call 180; (with_reducible refine (take_st r E 1 _ (by decide) _ Q14).mono ?_); rintro e w2 h2; rcases h2.step HS1.out with ⟨v2, a2, ts2, rfl, hV, hR, hg, hS, hx⟩ | ⟨y, rfl, hg, hSE⟩; rotate_left; (have hGE : Rg r w w2 := Q5); rotate_left; (obtain ⟨rfl, hst2⟩ := hV); (have HR2 := Hd hR; have HG2 : RowKit.Hid (Rg r w w2) := Hd Q5; have HS2 := Hd hS; have HX2 := Hd hx; have HD2 := Hd hg; clear hR hg hS hx); (have HBr2 := Hd (HD2.out.keep HBr1.out (by omega))); (have hz2 := HD2.out.size))
    | (go_at_call 193; (with_reducible refine (held_t r E one n cap _ _ Q15 hm hcf (HC.out.at (by first | exact HG2.out | exact HG2.out.alloc _ | exact (HG2.out.alloc _).alloc _))).mono ?_); rintro e w3 h3; rcases h3.step HS2.out with ⟨v3, a3, ts3, rfl, hV, hR, hg, hS, hx⟩ | ⟨y, rfl, hg, hSE⟩; rotate_left; (have hGE : Rg r w w3 := Q4); rotate_left; (obtain ⟨q3, c3, hv⟩ := hV.1.shape; subst hv; have HV3 := Hd hV; have HL3 := Hd hV.2); (have HR3 := Hd hR; have HG3 : RowKit.Hid (Rg r w w3) := Hd Q4; have HS3 := Hd hS; have HX3 := Hd hx; have HD3 := Hd hg; clear hR hg hS hx hV); (have HBr3 := Hd (HD3.out.keep HBr2.out (by omega)); obtain ⟨x0, x1, x2, x3, x4, y0, y1, y2, y3, y4⟩ := box5 HBr3.out)))
   all_goals first | exact ⟨rfl, hGE, rfl⟩ | exact ⟨rfl, hGE, by rw [hSE]⟩ | skip
   exact fin5 (w0 := w) rfl rfl rfl HBr3.out (Nat.le_refl _) HG3.out hrl HR3.out HS3.out w2.heap.size (by omega) (by omega) (kids_of HV3.out.sl (by have := HV3.out.2; omega) (by decide) hst2)
 have h := HS0.out
 rw [if_neg h3, if_neg h2, if_neg h1] at h
 have HSa := Hd h
 have d3 : (nk == 3) = false := by simpa using h3
 have d2 : (nk == 2) = false := by simpa using h2
 have d1 : (nk == 1) = false := by simpa using h1
 clear HS0 h h3 h2 h1
 have HS0 := HSa
 go_enter Tryz.func137, Tryz.ntmps137
 go_wp2_with (first
   | (go_at_call 173; (with_reducible refine (HN.out _ Q16).mono ?_); rintro e w1 ⟨rfl, hb⟩; have HG1 : RowKit.Hid (Rg r w w1) := Hd Q27; have HR1 : RowKit.Hid (Rd r E w1 ts) := Hd Q35; have HD1 := Hd (Rg.of_below (r := r) hb); have HS1 := HS0; (have HBr1 := Hd (HD1.out.keep (hb_new _ _) (by omega))); (have hz1 := HD1.out.size; rw [World.size_alloc] at hz1); clear hb)
   | (go_at_call 190; (with_reducible refine (opened_t r E one n cap _ _ Q14 hm hcf (HC.out.at (by first | exact HG1.out | exact HG1.out.alloc _ | exact (HG1.out.alloc _).alloc _))).mono ?_); rintro e w2 h2; rcases h2.step HS1.out with ⟨v2, a2, ts2, rfl, hV, hR, hg, hS, hx⟩ | ⟨y, rfl, hg, hSE⟩; rotate_left; (have hGE : Rg r w w2 := Q5); rotate_left; (obtain ⟨q2, c2, hv⟩ := hV.1.shape; subst hv; have HV2 := Hd hV; have HL2 := Hd hV.2); (have HR2 := Hd hR; have HG2 : RowKit.Hid (Rg r w w2) := Hd Q5; have HS2 := Hd hS; have HX2 := Hd hx; have HD2 := Hd hg; clear hR hg hS hx hV); (have HBr2 := Hd (HD2.out.keep HBr1.out (by omega))); (have hz2 := HD2.out.size))
   | (go_at_call 192; (with_reducible refine (closed_t r E 4 _ _ w1 _ (by omega) (by omega) HV2.out _ Q15).mono ?_); rintro e w3 h3; rcases h3.step (HS2.out.trans (bnd_id _).symm) with ⟨v3, a3, ts3, rfl, hV, hR, hg, hS, hx⟩ | ⟨y, rfl, hg, hSE⟩; rotate_left; (have hGE : Rg r w w3 := Q4); rotate_left; (obtain ⟨k3, p3, n3, N3, q3, l3, c3, rfl⟩ := hV.shape; have HV3 := Hd hV); (have HR3 := Hd hR; have HG3 : RowKit.Hid (Rg r w w3) := Hd Q4; have HS3 := Hd hS; have HX3 := Hd hx; have HD3 := Hd hg; clear hR hg hS hx hV); (have HBr3 := Hd (HD3.out.keep HBr2.out (by omega)); obtain ⟨x0, x1, x2, x3, x4, y0, y1, y2, y3, y4⟩ := box5 HBr3.out)))
 all_goals first | exact ⟨rfl, hGE, rfl⟩ | exact ⟨rfl, hGE, by rw [hSE]⟩ | skip
 exact fin5 (w0 := w) rfl rfl rfl HBr3.out (Nat.le_refl _) HG3.out hrl HR3.out HS3.out w1.heap.size (by omega) (by omega) HV3.out
end Go.Proofs.YtmkjalnlldpdcaaGreatDoor
namespace Go.Proofs.YtmkjalnlldpdcaaGreatDoor
set_option linter.unusedSimpArgs false
set_option linter.unusedVariables false
def MR {α : Type} (n : Nat) (x : Res α) : Prop := ∀ a ts', x = .ok (a, ts') → ts'.length ≤ n
theorem MR.bnd {α β : Type} {n : Nat} {x : Res α} {f : α → Ts → Res β} (hx : MR n x) (hf : ∀ a ts, ts.length ≤ n → MR n (f a ts)) : MR n (bnd x f) := by
 intro b ts' h
 cases x with
 | error e => cases h
 | ok y => exact hf y.1 y.2 (hx y.1 y.2 rfl) b ts' h
theorem MR.ok {α : Type} {n : Nat} {a : α} {ts : Ts} (h : ts.length ≤ n) : MR n (.ok (a, ts) : Res α) := by
 intro b ts' e
 cases e
 exact h
theorem MR.die {α : Type} {n E e : Nat} {ts : Ts} : MR n (die E ts e : Res α) := by
 intro b ts' h
 cases h
theorem MR.of {α : Type} {one : Ts → Res α} (h : Mono one) {n : Nat} {ts : Ts} (hl : ts.length ≤ n) : MR n (one ts) := fun a ts' e => Nat.le_trans (h _ _ _ e) hl
theorem tail_le (ts : Ts) {n : Nat} (h : ts.length ≤ n) : ts.tail.length ≤ n := by rw [List.length_tail]; omega
theorem MR.ite {α : Type} {n : Nat} {c : Prop} [Decidable c] {x y : Res α} (hx : MR n x) (hy : MR n y) : MR n (if c then x else y) := by
 by_cases h : c
 · rw [if_pos h]; exact hx
 · rw [if_neg h]; exact hy
theorem takeP_m {E n : Nat} {k : Int} {ts : Ts} (h : ts.length ≤ n) : MR n (takeP E k ts) := by
 unfold takeP
 exact MR.ite (MR.ok (tail_le ts h)) MR.die
theorem keyP_m {E n : Nat} {k : Int} {x : ByteArray} {ts : Ts} (h : ts.length ≤ n) : MR n (keyP E k x ts) := by
 unfold keyP
 exact MR.ite (MR.ok (tail_le ts h)) MR.die
theorem sevF_m {α : Type} {E : Nat} {bt : ByteArray} {one : Ts → Res α} (hm : Mono one) : ∀ (f : Nat) (ts : Ts) (acc : List α) (n : Nat), ts.length ≤ n → MR n (sevF E bt one f ts acc)
 | 0, ts, acc, n, h => MR.die
 | f + 1, ts, acc, n, h => by
  unfold sevF
  exact MR.ite (MR.bnd (MR.of hm (tail_le ts h)) fun a ts1 h1 => sevF_m hm f ts1 _ n h1) (MR.ok h)
theorem sevP_m {α : Type} {E n : Nat} {bt : ByteArray} {one : Ts → Res α} (hm : Mono one) {ts : Ts} (h : ts.length ≤ n) : MR n (sevP E bt one ts) :=
 MR.bnd (MR.of hm h) fun a ts1 h1 => sevF_m hm _ ts1 _ n h1
theorem heldP_m {α : Type} {E n : Nat} {one : Ts → Res α} (hm : Mono one) {ts : Ts} (h : ts.length ≤ n) : MR n (heldP E one ts) :=
 MR.ite (MR.bnd (sevP_m hm (tail_le ts h)) fun l ts1 h1 => MR.bnd (keyP_m h1) fun _ ts2 h2 => MR.ok h2) (MR.ok h)
theorem openP_m {E n : Nat} {one : Ts → Res Tm} (hm : Mono one) {ts : Ts} (h : ts.length ≤ n) : MR n (openP E one ts) :=
 MR.bnd (keyP_m h) fun _ ts1 h1 => MR.ite (MR.ok h1) (sevP_m hm h1)
theorem shutP_m {E n : Nat} {k : Int} {l : List Tm} {ts : Ts} (h : ts.length ≤ n) : MR n (shutP E k l ts) := MR.bnd (keyP_m h) fun _ ts1 h1 => MR.ok h1
theorem conP_m {E n : Nat} {k : Int} {p : ByteArray} {one : Ts → Res Tm} (hm : Mono one) {ts : Ts} (h : ts.length ≤ n) : MR n (conP E k p one ts) :=
 MR.bnd (takeP_m h) fun s ts1 h1 => MR.bnd (heldP_m hm h1) fun l ts2 h2 => MR.ok h2
theorem tyConP_m {E n : Nat} {p : ByteArray} {one : Ts → Res Tm} (hm : Mono one) {ts : Ts} (h : ts.length ≤ n) : MR n (tyConP E p one ts) :=
 MR.bnd (takeP_m h) fun s ts1 h1 => MR.bnd (heldP_m hm h1) fun l ts2 h2 => MR.ok h2
theorem tyAtomP_m {E n : Nat} {one : Ts → Res Tm} (hm : Mono one) {ts : Ts} (h : ts.length ≤ n) : MR n (tyAtomP E one ts) :=
 MR.ite (MR.bnd (takeP_m h) fun s ts1 h1 => MR.ok h1) (MR.ite (MR.bnd (takeP_m h) fun p ts1 h1 => MR.bnd (keyP_m h1) fun _ ts2 h2 => tyConP_m hm h2)
  (MR.ite (tyConP_m hm h) (MR.bnd (openP_m hm h) fun l ts1 h1 => shutP_m h1)))
theorem typP_mono (E : Nat) : ∀ g, Mono (typP E g)
 | 0 => fun ts a ts' h => by cases h
 | g + 1 => fun ts a ts' h => by
  unfold typP at h
  exact MR.bnd (tyAtomP_m (typP_mono E g) (Nat.le_refl _)) (fun t ts1 h1 => MR.ite (MR.bnd (MR.of (typP_mono E g) (tail_le ts1 h1)) fun u ts2 h2 => MR.ok h2) (MR.ok h1)) a ts' h
theorem annP_m {E n : Nat} {one : Ts → Res Tm} (hm : Mono one) {ts : Ts} (h : ts.length ≤ n) : MR n (annP E one ts) :=
 MR.ite (MR.bnd (MR.of hm (tail_le ts h)) fun t ts1 h1 => MR.ok h1) (MR.ok h)
theorem qualP_m {E n : Nat} {ts : Ts} (h : ts.length ≤ n) : MR n (qualP E ts) :=
 MR.ite (MR.bnd (takeP_m h) fun p ts1 h1 => MR.bnd (keyP_m h1) fun _ ts2 h2 => MR.ok h2) (MR.ok h)
theorem patP_mono (E : Nat) : ∀ g, Mono (patP E g)
 | 0 => fun ts a ts' h => by cases h
 | g + 1 => fun ts a ts' h => by
  unfold patP at h
  have hl := Nat.le_refl ts.length
  exact MR.ite (MR.bnd (takeP_m hl) fun s ts1 h1 => MR.ok h1) (MR.ite (MR.bnd (takeP_m hl) fun s ts1 h1 => MR.ok h1) (MR.ite (MR.bnd (takeP_m hl) fun s ts1 h1 => MR.ok h1)
   (MR.ite (MR.bnd (qualP_m hl) fun p ts1 h1 => conP_m (patP_mono E g) h1) (MR.ite (MR.ok (tail_le ts hl)) (MR.bnd (openP_m (patP_mono E g) hl) fun l ts1 h1 => shutP_m h1))))) a ts' h
theorem appF_m {E : Nat} {atom : Ts → Res Tm} (hm : Mono atom) : ∀ (k : Nat) (t : Tm) (ts : Ts) (n : Nat), ts.length ≤ n → MR n (appF E atom k t ts)
 | 0, t, ts, n, h => MR.ite MR.die (MR.ok h)
 | k + 1, t, ts, n, h => MR.ite (MR.bnd (MR.of hm h) fun a ts1 h1 => appF_m hm k _ ts1 n h1) (MR.ok h)
theorem appP_m {E n : Nat} {atom : Ts → Res Tm} (hm : Mono atom) {ts : Ts} (h : ts.length ≤ n) : MR n (appP E atom ts) := MR.bnd (MR.of hm h) fun t ts1 h1 => appF_m hm 50 t ts1 n h1
theorem varP_m {E n : Nat} {p : ByteArray} {ts : Ts} (h : ts.length ≤ n) : MR n (varP E p ts) := MR.bnd (takeP_m h) fun s ts1 h1 => MR.ok h1
theorem atomP_mono {E : Nat} {one typ : Ts → Res Tm} (hm : Mono one) (ht : Mono typ) : Mono (atomP E one typ) := fun ts a ts' h => by
 have hl := Nat.le_refl ts.length
 unfold atomP at h
 exact MR.ite (MR.bnd (takeP_m hl) fun s ts1 h1 => MR.ok h1) (MR.ite (MR.bnd (takeP_m hl) fun s ts1 h1 => MR.ok h1)
  (MR.ite (MR.bnd (qualP_m hl) fun p ts1 h1 => MR.ite (conP_m hm h1) (varP_m h1)) (MR.ite (varP_m hl) (MR.bnd (openP_m hm hl) fun l ts1 h1 =>
   MR.ite (MR.bnd (annP_m ht h1) fun a ts2 h2 => shutP_m h2) (shutP_m h1))))) a ts' h
theorem funP_m {E n : Nat} {one : Ts → Res Tm} (hm : Mono one) {ts : Ts} (h : ts.length ≤ n) : MR n (funP E one ts) :=
 MR.bnd (takeP_m h) fun s ts1 h1 => MR.bnd (keyP_m h1) fun _ ts2 h2 => MR.bnd (MR.of hm h2) fun x ts3 h3 => MR.ok h3
theorem letR_m {E n : Nat} {one typ : Ts → Res Tm} (hm : Mono one) (ht : Mono typ) {N : Int} {ts : Ts} (h : ts.length ≤ n) : MR n (letR E one typ N ts) :=
 MR.bnd (takeP_m h) fun s ts1 h1 => MR.bnd (annP_m ht h1) fun a ts2 h2 => MR.bnd (keyP_m h2) fun _ ts3 h3 => MR.bnd (MR.of hm h3) fun x ts4 h4 =>
  MR.bnd (keyP_m h4) fun _ ts5 h5 => MR.bnd (MR.of hm h5) fun y ts6 h6 => MR.ok h6
theorem letP_m {E n : Nat} {one typ : Ts → Res Tm} (hm : Mono one) (ht : Mono typ) {ts : Ts} (h : ts.length ≤ n) : MR n (letP E one typ ts) :=
 MR.ite (letR_m hm ht (tail_le ts h)) (letR_m hm ht h)
theorem armP_mono {E : Nat} {pat one : Ts → Res Tm} (hp : Mono pat) (hm : Mono one) : Mono (armP E pat one) := fun ts a ts' h =>
 MR.bnd (MR.of hp (Nat.le_refl ts.length)) (fun p ts1 h1 => MR.bnd (keyP_m h1) fun _ ts2 h2 => MR.bnd (MR.of hm h2) fun x ts3 h3 => MR.ok h3) a ts' h
theorem matP_m {E n : Nat} {pat one : Ts → Res Tm} (hp : Mono pat) (hm : Mono one) {ts : Ts} (h : ts.length ≤ n) : MR n (matP E pat one ts) :=
 MR.bnd (MR.of hm h) fun x ts1 h1 => MR.bnd (keyP_m h1) fun _ ts2 h2 => MR.bnd (sevP_m (armP_mono hp hm) h2) fun l ts3 h3 => MR.bnd (keyP_m h3) fun _ ts4 h4 => MR.ok h4
theorem exprP_mono (E : Nat) : ∀ g, Mono (exprP E g)
 | 0 => fun ts a ts' h => by cases h
 | g + 1 => fun ts a ts' h => by
  unfold exprP at h
  have hl := Nat.le_refl ts.length
  exact MR.ite (funP_m (exprP_mono E g) (tail_le ts hl)) (MR.ite (letP_m (exprP_mono E g) (typP_mono E g) (tail_le ts hl)) (MR.ite (matP_m (patP_mono E g) (exprP_mono E g) (tail_le ts hl))
   (appP_m (atomP_mono (exprP_mono E g) (typP_mono E g)) hl))) a ts' h
end Go.Proofs.YtmkjalnlldpdcaaGreatDoor
