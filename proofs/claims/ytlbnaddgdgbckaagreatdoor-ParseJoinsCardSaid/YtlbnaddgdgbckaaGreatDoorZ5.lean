/- Texts in a row: Pe Pf. -/
import Derived.Test.YtlbnaddgdgbckaaGreatDoorZ4
/- A reader's small steps: skip, key, sign, begin, a qualifier, what begins an atom. -/
namespace Go.Proofs.YtlbnaddgdgbckaaGreatDoor
open Go.RowKit
set_option linter.unusedSimpArgs false
set_option linter.unusedVariables false
theorem Got.step {α β : Type} {r E : Nat} {V : World → World → Value → α → Prop} {w w' : World} {x : Res α} {f : α → Ts → Res β} {S : Res β} {e : Ending} (h : Got r E V w x e w') (hS : S = bnd x f) :
    (∃ v a ts', e = .returned v ∧ V w w' v a ∧ Rd r E w' ts' ∧ Rg r w w' ∧ S = f a ts' ∧ x = .ok (a, ts')) ∨ (∃ y, e = .panicked (flt y) ∧ Rg r w w' ∧ S = .error y) := by
  obtain ⟨hg, h⟩ := h
  cases x with
  | error y => exact .inr ⟨y, h, hg, hS⟩
  | ok y =>
    obtain ⟨⟨v, rfl, hV⟩, hR⟩ := h
    exact .inl ⟨v, y.1, y.2, rfl, hV, hR, hg, hS, rfl⟩
theorem isB_kd {k : Int} {x : ByteArray} {ts : Ts} (h : isB k x ts = true) : kd ts = k ∧ tx ts = x := by
  unfold isB at h
  simpa using h
theorem isB_cons {k : Int} {ts : Ts} (hk : k ≠ 0) (h : kd ts = k) : ∃ t ts', ts = t :: ts' := by
  cases ts with
  | nil => exact absurd h.symm hk
  | cons t ts' => exact ⟨t, ts', rfl⟩
set_option maxRecDepth 100000 in
theorem skip_any (r E : Nat) (k : Int) (x : ByteArray) (ts : Ts) (hk : k ≠ 0) (w : World) (hR : Rd r E w ts) :
    Calls Tryz.prog 65 #[rp r, .int .i64 k, .string x] w fun e w' => e = .returned (.bool (isB k x ts)) ∧ Rg r w w' ∧ Rd r E w' (if isB k x ts then ts.tail else ts) := by
  have HI := Lib.hid (fun W hW => is_any r E k x ts W hW)
  have HR := Lib.hid hR
  cases hB : isB k x ts with
  | false =>
    rw [hB] at HI
    clear hR
    go_enter Tryz.func65, Tryz.ntmps65
    go_wp2_with (go_at_call 77; (with_reducible refine (HI.out _ HR.out).mono ?_); rintro e w1 ⟨rfl, hb⟩; have HB := Lib.hid hb; clear hb)
    go_ret
    exact ⟨rfl, Rg.of_below HB.out, HR.out.below HB.out⟩
  | true =>
    rw [hB] at HI
    have hK := (isB_kd hB).1
    have HT : RowKit.Hid (∀ W, Rd r E W ts → Calls Tryz.prog 66 #[rp r, .int .i64 k] W (Got r E (fun _ _ v s => v = .string s) W (.ok (tx ts, ts.tail)))) := by
      refine Lib.hid (fun W hW => ?_)
      have h := take_any r E k ts hk W hW
      rwa [show takeP E k ts = .ok (tx ts, ts.tail) from if_pos hK] at h
    clear hR hB hK
    go_enter Tryz.func65, Tryz.ntmps65
    go_wp2_with (first
      | (go_at_call 77; (with_reducible refine (HI.out _ HR.out).mono ?_); rintro e w1 ⟨rfl, hb⟩; have HB := Lib.hid hb; have HR1 := Lib.hid (HR.out.below hb); clear hb)
      | (go_at_call 66; (with_reducible refine (HT.out _ HR1.out).mono ?_); rintro e w2 ⟨hg, ⟨v, rfl, rfl⟩, hr2⟩; have HG := Lib.hid hg; have HR2 := Lib.hid hr2; clear hg hr2))
    go_ret
    exact ⟨rfl, (Rg.of_below HB.out).trans HG.out, HR2.out⟩
/-- What a skip comes to. -/
def Skp (r E : Nat) (ts : Ts) (b : Bool) (w : World) (e : Ending) (w' : World) : Prop := e = .returned (.bool b) ∧ Rg r w w' ∧ Rd r E w' (if b then ts.tail else ts)
set_option maxRecDepth 100000 in
theorem skipKey_any (r E : Nat) (x : ByteArray) (ts : Ts) (w : World) (hR : Rd r E w ts) : Calls Tryz.prog 37 #[rp r, .string x] w (Skp r E ts (isB 7 x ts) w) := by
  have HI := Lib.hid (skip_any r E 7 x ts (by decide) w hR)
  generalize isB 7 x ts = b at *
  clear hR
  go_enter Tryz.func37, Tryz.ntmps37
  go_wp2_with (go_at_call 65; (with_reducible refine HI.out.mono ?_); rintro e w1 ⟨rfl, h⟩; have HG := Lib.hid h; clear h)
  go_ret
  exact ⟨rfl, HG.out⟩
set_option maxRecDepth 100000 in
theorem skipSign_any (r E : Nat) (x : ByteArray) (ts : Ts) (w : World) (hR : Rd r E w ts) : Calls Tryz.prog 46 #[rp r, .string x] w (Skp r E ts (isB 8 x ts) w) := by
  have HI := Lib.hid (skip_any r E 8 x ts (by decide) w hR)
  generalize isB 8 x ts = b at *
  clear hR
  go_enter Tryz.func46, Tryz.ntmps46
  go_wp2_with (go_at_call 65; (with_reducible refine HI.out.mono ?_); rintro e w1 ⟨rfl, h⟩; have HG := Lib.hid h; clear h)
  go_ret
  exact ⟨rfl, HG.out⟩
/-- A value that is none. -/
def UnV (_ _ : World) (v : Value) (_ : Unit) : Prop := v = .tuple #[]
set_option maxRecDepth 100000 in
theorem key_any (r E : Nat) (x : ByteArray) (ts : Ts) (w : World) (hR : Rd r E w ts) : Calls Tryz.prog 68 #[rp r, .string x] w (Got r E UnV w (keyP E 7 x ts)) := by
  have HI := Lib.hid (skipKey_any r E x ts w hR)
  have HF := Lib.hid (fun W hW => fault_at r E 10 ts W hW 10 rfl)
  unfold keyP
  cases hB : isB 7 x ts with
  | true =>
    rw [hB] at HI
    rw [if_pos rfl]
    clear hR HF
    go_enter Tryz.func68, Tryz.ntmps68
    go_wp2_with (go_at_call 37; (with_reducible refine HI.out.mono ?_); rintro e w1 ⟨rfl, hg, hr⟩; have HG := Lib.hid hg; have HR1 := Lib.hid hr; clear hg hr)
    exact ⟨rfl, .tuple #[], by simp [results, Tryz.results68, go_sem], HG.out, ⟨_, rfl, rfl⟩, HR1.out⟩
  | false =>
    rw [hB] at HI
    rw [if_neg (by decide)]
    clear hR
    go_enter Tryz.func68, Tryz.ntmps68
    go_wp2_with (first
      | (go_at_call 37; (with_reducible refine HI.out.mono ?_); rintro e w1 ⟨rfl, hg, hr⟩; have HG := Lib.hid hg; have HR1 := Lib.hid hr; clear hg hr)
      | (go_at_call 32; (with_reducible refine (HF.out _ HR1.out).mono ?_); rintro e w2 ⟨rfl, hb⟩; have HB2 := Lib.hid hb; clear hb))
    exact ⟨rfl, HG.out.trans (Rg.of_below HB2.out), rfl⟩
set_option maxRecDepth 100000 in
theorem sign_any (r E : Nat) (x : ByteArray) (ts : Ts) (w : World) (hR : Rd r E w ts) : Calls Tryz.prog 34 #[rp r, .string x] w (Got r E UnV w (keyP E 8 x ts)) := by
  have HI := Lib.hid (skipSign_any r E x ts w hR)
  have HF := Lib.hid (fun W hW => fault_at r E 10 ts W hW 10 rfl)
  unfold keyP
  cases hB : isB 8 x ts with
  | true =>
    rw [hB] at HI
    rw [if_pos rfl]
    clear hR HF
    go_enter Tryz.func34, Tryz.ntmps34
    go_wp2_with (go_at_call 46; (with_reducible refine HI.out.mono ?_); rintro e w1 ⟨rfl, hg, hr⟩; have HG := Lib.hid hg; have HR1 := Lib.hid hr; clear hg hr)
    exact ⟨rfl, .tuple #[], by simp [results, Tryz.results34, go_sem], HG.out, ⟨_, rfl, rfl⟩, HR1.out⟩
  | false =>
    rw [hB] at HI
    rw [if_neg (by decide)]
    clear hR
    go_enter Tryz.func34, Tryz.ntmps34
    go_wp2_with (first
      | (go_at_call 46; (with_reducible refine HI.out.mono ?_); rintro e w1 ⟨rfl, hg, hr⟩; have HG := Lib.hid hg; have HR1 := Lib.hid hr; clear hg hr)
      | (go_at_call 32; (with_reducible refine (HF.out _ HR1.out).mono ?_); rintro e w2 ⟨rfl, hb⟩; have HB2 := Lib.hid hb; clear hb))
    exact ⟨rfl, HG.out.trans (Rg.of_below HB2.out), rfl⟩
set_option maxRecDepth 100000 in
/-- So deep there may be something. -/
theorem begin_ok (r E : Nat) (d : Nat) (hd : d ≤ 40) (ts : Ts) (w : World) (hR : Rd r E w ts) : Calls Tryz.prog 36 #[rp r, .int .i64 (d : Nat)] w fun e w' => e = .returned (.tuple #[]) ∧ w = w' := by
  have h : decide ((40 : Int) < (d : Int)) = false := by simp; omega
  go_enter Tryz.func36, Tryz.ntmps36
  go_wp2
  exact ⟨rfl, .tuple #[], by simp [results, Tryz.results36, go_sem], rfl, rfl⟩
set_option maxRecDepth 100000 in
theorem begin_no (r E : Nat) (d : Nat) (hd : 40 < d) (ts : Ts) (w : World) (hR : Rd r E w ts) : Calls Tryz.prog 36 #[rp r, .int .i64 (d : Nat)] w fun e w' => e = .panicked (flt ((nx E ts).2, 9)) ∧ Rg r w w' := by
  have h : decide ((40 : Int) < (d : Int)) = true := by simp; omega
  have HF := Lib.hid (fault_at r E 9 ts w hR 9 rfl)
  go_enter Tryz.func36, Tryz.ntmps36
  go_wp2_with (go_at_call 32; (with_reducible refine HF.out.mono ?_); rintro e w2 ⟨rfl, hb⟩; have HB2 := Lib.hid hb; clear hb)
  exact ⟨rfl, rfl, Rg.of_below HB2.out⟩
set_option maxRecDepth 100000 in
theorem beginsAtom_any (r E : Nat) (ts : Ts) (w : World) (hR : Rd r E w ts) : Calls Tryz.prog 72 #[rp r] w fun e w' => e = .returned (.bool (begB ts)) ∧ Below w.heap.size w w' := by
  have HI := Lib.hid (fun W hW => is_any r E 8 sOpen ts W hW)
  have HN := Lib.hid (fun W hW => next_any r E ts W hW)
  have HR := Lib.hid hR
  have hnx : (nx E ts).1 = (nx 0 ts).1 := by cases ts <;> rfl
  unfold tokV at HN
  unfold begB kd
  rw [← hnx]
  generalize isB 8 sOpen ts = b at *
  generalize nx E ts = T at *
  obtain ⟨⟨tk, tz, tn⟩, ta⟩ := T
  have HN2 : RowKit.Hid (∀ W, Rd r E W ts → Calls Tryz.prog 59 #[rp r] W fun e w' => e = .returned (.agg #[.int .i64 tk, .string tz, .int .i64 tn, .int .i64 (ta : Nat)]) ∧ Below W.heap.size W w') := HN
  clear hR HN hnx
  show Calls _ _ _ _ fun e w' => e = .returned (.bool (decide (tk = 4) || decide (tk = 5) || decide (tk = 1) || decide (tk = 2) || b)) ∧ _
  by_cases h4 : tk = 4
  · subst h4
    simp only [decide_true, Bool.true_or]
    go_enter Tryz.func72, Tryz.ntmps72
    go_wp2_with (go_at_call 59; (with_reducible refine (HN2.out _ HR.out).mono ?_); rintro e w1 ⟨rfl, hb⟩; have HB := Lib.hid hb; clear hb)
    go_ret
    exact ⟨rfl, HB.out.alloc HB.out.size _⟩
  by_cases h5 : tk = 5
  · subst h5
    simp only [decide_true, Bool.true_or, Bool.or_true]
    go_enter Tryz.func72, Tryz.ntmps72
    go_wp2_with (go_at_call 59; (with_reducible refine (HN2.out _ HR.out).mono ?_); rintro e w1 ⟨rfl, hb⟩; have HB := Lib.hid hb; clear hb)
    go_ret
    exact ⟨rfl, HB.out.alloc HB.out.size _⟩
  by_cases h1 : tk = 1
  · subst h1
    simp only [decide_true, Bool.true_or, Bool.or_true]
    go_enter Tryz.func72, Tryz.ntmps72
    go_wp2_with (go_at_call 59; (with_reducible refine (HN2.out _ HR.out).mono ?_); rintro e w1 ⟨rfl, hb⟩; have HB := Lib.hid hb; clear hb)
    go_ret
    exact ⟨rfl, HB.out.alloc HB.out.size _⟩
  by_cases h2 : tk = 2
  · subst h2
    simp only [decide_true, Bool.true_or, Bool.or_true]
    go_enter Tryz.func72, Tryz.ntmps72
    go_wp2_with (go_at_call 59; (with_reducible refine (HN2.out _ HR.out).mono ?_); rintro e w1 ⟨rfl, hb⟩; have HB := Lib.hid hb; clear hb)
    go_ret
    exact ⟨rfl, HB.out.alloc HB.out.size _⟩
  have d4 : (tk == 4) = false := by simpa using h4
  have d5 : (tk == 5) = false := by simpa using h5
  have d1 : (tk == 1) = false := by simpa using h1
  have d2 : (tk == 2) = false := by simpa using h2
  rw [decide_eq_false h4, decide_eq_false h5, decide_eq_false h1, decide_eq_false h2]
  simp only [Bool.false_or]
  go_enter Tryz.func72, Tryz.ntmps72
  go_wp2_with (first
    | (go_at_call 59; (with_reducible refine (HN2.out _ HR.out).mono ?_); rintro e w1 ⟨rfl, hb⟩; have HB := Lib.hid hb; have HR1 := Lib.hid (HR.out.below hb); clear hb)
    | (go_at_call 77; (with_reducible refine (HI.out _ (by exact HR1.out.alloc _)).mono ?_); rintro e w2 ⟨rfl, hb⟩; have HB2 := Lib.hid hb; clear hb))
  go_ret
  exact ⟨rfl, (HB.out.alloc HB.out.size _).trans (HB2.out.mono (by have := HB.out.size; simp; omega))⟩
end Go.Proofs.YtlbnaddgdgbckaaGreatDoor
/- One thing or more, with a sign between them: terms. -/
namespace Go.Proofs.YtlbnaddgdgbckaaGreatDoor
open Go.RowKit
set_option linter.unusedSimpArgs false
set_option linter.unusedVariables false
/-- No more is to read behind than ahead. -/
def Mono {α : Type} (one : Ts → Res α) : Prop := ∀ ts a ts', one ts = .ok (a, ts') → ts'.length ≤ ts.length
theorem bnd_mono {α β : Type} {x : Res α} {f : α → Ts → Res β} {n : Nat} (hx : ∀ a ts', x = .ok (a, ts') → ts'.length ≤ n) (hf : ∀ a ts1 b ts', ts1.length ≤ n → f a ts1 = .ok (b, ts') → ts'.length ≤ n) : ∀ b ts', bnd x f = .ok (b, ts') → ts'.length ≤ n := by
  intro b ts' h
  cases x with
  | error e => cases h
  | ok y => exact hf y.1 y.2 b ts' (hx y.1 y.2 rfl) h
theorem isB_pos {k : Int} {x : ByteArray} {ts : Ts} (hk : k ≠ 0) (h : isB k x ts = true) : ts.tail.length + 1 = ts.length := by
  obtain ⟨t, ts', rfl⟩ := isB_cons hk (isB_kd h).1
  rfl
theorem sevF_any {α : Type} {E : Nat} {bt : ByteArray} {one : Ts → Res α} (hm : Mono one) : ∀ (f g : Nat) (ts : Ts) (acc : List α), ts.length < f → ts.length < g → sevF E bt one f ts acc = sevF E bt one g ts acc := by
  intro f
  induction f with
  | zero => intro g ts acc h; omega
  | succ f ih =>
    intro g ts acc h1 h2
    cases g with
    | zero => omega
    | succ g =>
      unfold sevF
      by_cases hB : isB 8 bt ts = true
      · rw [if_pos hB, if_pos hB]
        have hl := isB_pos (by decide) hB
        cases hx : one ts.tail with
        | error e => rfl
        | ok y =>
          obtain ⟨a, ts'⟩ := y
          have := hm _ _ _ hx
          rw [bnd_ok, bnd_ok]
          exact ih g ts' _ (by omega) (by omega)
      · rw [if_neg hB, if_neg hB]
theorem sevL_step {α : Type} {E : Nat} {bt : ByteArray} {one : Ts → Res α} (hm : Mono one) (ts : Ts) (acc : List α) :
    sevL E bt one ts acc = if isB 8 bt ts then bnd (one ts.tail) fun a ts => sevL E bt one ts (acc ++ [a]) else .ok (acc, ts) := by
  unfold sevL
  rw [sevF]
  by_cases hB : isB 8 bt ts = true
  · rw [if_pos hB, if_pos hB]
    have hl := isB_pos (by decide) hB
    cases hx : one ts.tail with
    | error e => rfl
    | ok y =>
      obtain ⟨a, ts'⟩ := y
      have := hm _ _ _ hx
      rw [bnd_ok, bnd_ok]
      exact sevF_any hm _ _ _ _ (by omega) (by omega)
  · rw [if_neg hB, if_neg hB]
/-- Terms in a row. -/
def termK : Mem Tm where
  t := 37
  e := 39
  size := 5
  bytes := 72
  V X w cs t := ∃ k p n N s d, cs = [.int .i64 k, .string p, .string n, .int .i64 N, s] ∧ IsX X w d (tv k p n N s) t
  und := Tryz.underlying37
  inf := ⟨tv 0 ⟨#[]⟩ ⟨#[]⟩ 0 (.slice none 0 0), by kernel_rfl, rfl⟩
  pos := by decide
  few := by decide
  len := by rintro X w cs a ⟨k, p, n, N, s, d, rfl, _⟩; rfl
  one := by
    rintro X w cs a ⟨k, p, n, N, s, d, rfl, h⟩ u hu
    obtain ⟨q, c, rfl⟩ : ∃ q c, s = .slice q (match a with | .mk _ _ _ _ kids => kids.length) c := by
      cases d with
      | zero => cases h
      | succ d =>
        obtain ⟨k', p', n', N', kids⟩ := a
        obtain ⟨q, c, e, _⟩ := h
        cases e
        exact ⟨q, c, rfl⟩
    simp at hu
    rcases hu with rfl | rfl | rfl | rfl | rfl <;> rfl
  move := by
    rintro X Y w w' cs a hXY ⟨k, p, n, N, s, d, e, h⟩
    exact ⟨k, p, n, N, s, d, e, h.move hXY⟩
/-- Terms, whose lists are new. -/
def LsV (w w' : World) (v : Value) (l : List Tm) : Prop := RowG termK w.heap.size w' v l ∧ l.length ≤ 7000
theorem oper_append_at {T : TypeId} {w w' : World} {o : Oper} {a : Act} {K : Act → World → Prop} {Q : Exit → Act → World → Prop} (s x : Operand)
    (ho : o.op = .call { callee := .builtin .append, args := #[s, x], argTypes := #[T, T] }) (hty : o.type = T) {v vx v' : Value} (hs : a.eval s = v) (hx : a.eval x = vx)
    (hrun : (Builtin.append_ #[T, T] T #[v, vx]).run Tryz.prog w = .ok v' w') (h : K (a.put o.dst v') w') : Oper.wp Tryz.prog o a w K Q := by
  unfold Oper.wp execOp
  simp only [ho, hty, resolve, invoke, builtin, Sem.run_bind, Sem.run_pure, Result.andThen_ok, List.map_toArray, List.map_cons, List.map_nil, hs, hx, hrun]
  exact h
theorem wpList_append_at {T : TypeId} {w w' : World} {ops : Array Oper} {rest : List Oper} {o : Oper} {a : Act} {Q : Exit → Act → World → Prop} (hg : o.guard = none) (s x : Operand)
    (ho : o.op = .call { callee := .builtin .append, args := #[s, x], argTypes := #[T, T] }) (hty : o.type = T) {v vx v' : Value} (hs : a.eval s = v) (hx : a.eval x = vx)
    (hrun : (Builtin.append_ #[T, T] T #[v, vx]).run Tryz.prog w = .ok v' w') (h : wpList Tryz.prog ops Q rest (a.put o.dst v') w') : wpList Tryz.prog ops Q (o :: rest) a w := by
  have hw : Region.wanted o (yielded ops a.tmps) = true := by simp [Region.wanted, hg]
  unfold wpList
  rw [if_pos hw]
  exact .inl (oper_append_at s x ho hty hs hx hrun h)
theorem IsX.shape {X : Nat → Prop} {w : World} {d : Nat} {v : Value} {x : Tm} (h : IsX X w d v x) : ∃ k p n N q ln c, v = tv k p n N (.slice q ln c) := by
  cases d with
  | zero => cases h
  | succ d =>
    obtain ⟨k, p, n, N, kids⟩ := x
    obtain ⟨q, c, h1, _⟩ := h
    exact ⟨k, p, n, N, q, _, c, h1⟩
theorem TmV.shape {w w' : World} {v : Value} {t : Tm} (h : TmV w w' v t) : ∃ k p n N q ln c, v = tv k p n N (.slice q ln c) := let ⟨_, h⟩ := h; h.shape
/-- How many tokens are left. -/
def left (r : Nat) (w : World) : Nat := match w.cell? ⟨r, 0, none⟩ with
  | some (.slice _ n _) => n
  | _ => 0
theorem Rd.left {r E : Nat} {w : World} {ts : Ts} (h : Rd r E w ts) : left r w = ts.length := by
  obtain ⟨_, v, hr, q, c, rfl, _⟩ := h
  have x0 := hb_at hr 0 (v := .slice q ts.length c) rfl
  unfold Proofs.YtlbnaddgdgbckaaGreatDoor.left
  rw [x0]
/-- What a reader of one thing does, wherever it is called. -/
def OneT (r E : Nat) (one : Ts → Res Tm) (n : Nat) (cap : Array Value) (w : World) : Prop := ∀ W ts, Rg r w W → Rd r E W ts → Calls Tryz.prog n cap W (Got r E TmV W (one ts))
theorem OneT.at {r E : Nat} {one : Ts → Res Tm} {n : Nat} {cap : Array Value} {w w1 : World} (h : OneT r E one n cap w) (hg : Rg r w w1) : OneT r E one n cap w1 := fun W ts h1 h2 => h W ts (hg.trans h1) h2
set_option maxRecDepth 100000 in
set_option maxHeartbeats 4000000 in
theorem several_t (r E : Nat) (bt : ByteArray) (one : Ts → Res Tm) (n : Nat) (cap : Array Value) (w : World) (ts : Ts) (hR : Rd r E w ts) (hm : Mono one)
    (hcf : ∀ W, (callFunc n cap).run Tryz.prog W = .ok (.enter n cap) W) (HC : OneT r E one n cap w) :
    Calls Tryz.prog 100 #[rp r, .string bt, .func (.func n) #[] cap] w (Got r E LsV w (sevP E bt one ts)) := by
  have HC : RowKit.Hid (∀ W ts, Rg r w W → Rd r E W ts → Calls Tryz.prog n cap W (Got r E TmV W (one ts))) := Lib.hid HC
  have HR := Lib.hid hR
  have hrl := hR.lt
  have hfew := hR.few
  have HM := Lib.hid hm
  obtain ⟨S, hS⟩ : ∃ S, S = sevP E bt one ts := ⟨_, rfl⟩
  have HS := Lib.hid hS
  rw [← hS]
  unfold sevP at HS
  clear hR hS hm
  go_enter Tryz.func100, Tryz.ntmps100
  go_wp2_with (first | ((with_reducible refine (HC.out _ _ (Rg.refl _ _) HR.out).mono ?_); rintro e w1 h1; rcases h1.step HS.out with ⟨v, a, ts1, rfl, hV, hR1, hg1, hS1, hx1⟩ | ⟨y, rfl, hGE, hS1⟩; (obtain ⟨tk, tp, tn, tN, tq, tl, tc, rfl⟩ := hV.shape; have HV := Lib.hid hV; have HR1 := Lib.hid hR1; have HG1 := Lib.hid hg1; have HS1 := Lib.hid hS1; have HX1 := Lib.hid hx1; clear hV hR1 hg1 hS1 hx1)))
  all_goals first | exact ⟨rfl, hGE, rfl⟩ | exact ⟨rfl, hGE, by rw [hS1]⟩ | skip
  go_loopw [7] (fun v wr => ∃ (ts' : Ts) (acc : List Tm), S = sevL E bt one ts' acc ∧ acc.length + ts'.length ≤ 6001 ∧ Rg r w wr ∧ Rd r E wr ts' ∧ RowG termK w.heap.size wr v acc) (fun _ wr => left r wr)
  case atStart =>
    have hlen : ts1.length ≤ ts.length := HM.out _ _ _ HX1.out
    obtain ⟨d, hX⟩ := HV.out
    exact ⟨ts1, [a], HS1.out, by simp; omega, HG1.out.alloc _, HR1.out.alloc _, RowG.one (K := termK) (cs := [.int .i64 tk, .string tp, .string tn, .int .i64 tN, .slice tq tl tc]) ⟨_, _, _, _, _, d, rfl, hX⟩ HG1.out.size _ rfl⟩
  case round =>
    obtain ⟨ts', acc, hT, hbd, hg, hRd, hrow⟩ := hrel
    rw [sevL_step HM.out] at hT
    have hz := hg.size
    obtain ⟨aq, ac, rfl⟩ := hrow.shape
    have HT := Lib.hid hT
    have HGr := Lib.hid hg
    have HRr := Lib.hid hRd
    have HROW := Lib.hid hrow
    have HK := Lib.hid (fun W hW => skipSign_any r E bt ts' W hW)
    clear hT hg hRd hrow
    cases hB : isB 8 bt ts' with
    | false =>
      have HT2 := HT.out
      rw [hB, if_neg (by decide)] at HT2
      rw [hB] at HK
      subst HT2
      go_wp2_with (go_at_call 46; (with_reducible refine (HK.out _ HRr.out).mono ?_); rintro e w2 ⟨rfl, hg, hr⟩; have HG2 := Lib.hid (HGr.out.trans hg); have HGs := Lib.hid hg; have HR2 := Lib.hid hr; clear hg hr)
      refine bodyPost_ret (v := .slice aq acc.length ac) (by simp [results, Tryz.results100, go_sem]) rfl ⟨HG2.out, ⟨_, rfl, HROW.out.move fun b hb hl => HGs.out.same hl (by omega), by show acc.length ≤ 7000; omega⟩, HR2.out⟩
    | true =>
      have HT2 := HT.out
      rw [hB, if_pos rfl] at HT2
      rw [hB] at HK
      have HT3 := Lib.hid HT2
      have hpos := isB_pos (by decide) hB
      have hleft := HRr.out.left
      clear HT HT2 hB
      go_wp2_with (first
        | (go_at_call 46; (with_reducible refine (HK.out _ HRr.out).mono ?_); rintro e w2 ⟨rfl, hg, hr⟩; have HG2 := Lib.hid (HGr.out.trans hg); have HGs := Lib.hid hg; have HR2 : RowKit.Hid (Rd r E w2 ts'.tail) := Lib.hid hr; clear hg hr)
        | ((with_reducible refine (HC.out _ _ HG2.out HR2.out).mono ?_); rintro e w3 h3; rcases h3.step HT3.out with ⟨v, a3, ts3, rfl, hV, hR3, hg3, hS3, hx3⟩ | ⟨y, rfl, hGE, hS3⟩; (obtain ⟨tk, tp, tn, tN, tq, tl, tc, rfl⟩ := hV.shape; have HV3 := Lib.hid hV; have HR3 := Lib.hid hR3; have HG3 := Lib.hid (HG2.out.trans hg3); have HGt := Lib.hid (HGs.out.trans hg3); have HS3 := Lib.hid hS3; have HX3 := Lib.hid hx3; clear hV hR3 hg3 hS3 hx3))
        | (at_builtin; refine (fun h : True → _ => h trivial) ?_))
      all_goals first | exact ⟨rfl, HG2.out.trans hGE, rfl⟩ | exact ⟨rfl, HG2.out.trans hGE, by rw [hS3]⟩ | skip
      intro _
      obtain ⟨d, hX⟩ := HV3.out
      have hs3 := HGt.out.size
      obtain ⟨v', w', hrun, hrow', hgr, hblk⟩ := RowG.append (K := termK) (ms := [a3]) (wq := w3.alloc (.cells #[.int .i64 tk, .string tp, .string tn, .int .i64 tN, .slice tq tl tc] 39)) HROW.out hz (by simp; omega)
        (fun b h1 h2 => by rw [Below.heap_alloc _ _ _ (by omega)]; exact HGt.out.same h2 (by omega)) (g := w3.heap.size) (o := 0) (cc := 1)
        (fun i x hx => by
          match i, hx with
          | 0, hx =>
            obtain rfl : a3 = x := by simpa using hx
            refine ⟨[.int .i64 tk, .string tp, .string tn, .int .i64 tN, .slice tq tl tc], fun j u hu => ?_, _, _, _, _, _, d, rfl, hX.move fun b hb hl => ⟨by have := HGs.out.size; unfold New at hb; omega, Below.heap_alloc _ _ _ hl⟩⟩
            have e : 0 + 0 * termK.size + j = j := by omega
            rw [e, hb_cell (hb_new _ _)]
            simpa using hu
          | i + 1, hx => simp at hx) (by omega) (by simp)
      refine wpList_append_at rfl _ _ rfl rfl rfl rfl hrun ?_
      have hlen : ts3.length ≤ ts'.tail.length := HM.out _ _ _ HX3.out
      have HRW := Lib.hid hrow'
      have hg4 : Rg r w w' := (HG3.out.alloc _).grown hgr hblk
      have hr4 : Rd r E w' ts3 := (HR3.out.alloc _).grown hgr (fun k hk => by have := hblk k hk; omega)
      have HG4 := Lib.hid hg4
      have HR4 := Lib.hid hr4
      have hl4 := hr4.left
      clear hgr hrow' hrun hblk hX hg4 hr4
      go_wp2
      refine ⟨⟨ts3, acc ++ [a3], HS3.out, by simp; omega, HG4.out, HR4.out, HRW.out⟩, ?_⟩
      omega
end Go.Proofs.YtlbnaddgdgbckaaGreatDoor
