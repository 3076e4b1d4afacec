/- Texts in a row: Pe Lt S3 Lq. -/
import Derived.Test.YtmkjalnlldpdcaaGreatDoorZT10
import Derived.Test.YtmkjalnlldpdcaaGreatDoorZT9
import Derived.Test.YtmkjalnlldpdcaaGreatDoorZT1
import Derived.Shelf.Strings.Builder1
import Derived.Shelf.Strings.Builder2
import Derived.Shelf.Strings.OnBuilder
import Derived.Test.YtmkjalnlldpdcaaGreatDoorProg
import Derived.Lib.AppendIntMem
set_option maxHeartbeats 16000000
set_option maxRecDepth 100000
namespace Go.Proofs.YtmkjalnlldpdcaaGreatDoor
open Go.RowKit
set_option linter.unusedSimpArgs false
set_option linter.unusedVariables false
theorem Got.step {α β : Type} {r E : Nat} {V : World → World → Value → α → Prop} {w w' : World} {x : Res α} {f : α → Ts → Res β} {S : Res β} {e : Ending} (h : Got r E V w x e w') (hS : S = bnd x f) :
 (∃ v a ts', e = .returned v ∧ V w w' v a ∧ Rd r E w' ts' ∧ Rg r w w' ∧ S = f a ts' ∧ x = .ok (a, ts')) ∨ (∃ y, e = .panicked (flt y) ∧ Rg r w w' ∧ S = .error y) := by
 obtain ⟨hg, h⟩ := h
 cases x with
 | error y => exact .inr ⟨y, h, hg, hS⟩
 | ok y =>
  obtain ⟨⟨v, rfl, hV⟩, hR⟩ := h
  exact .inl ⟨v, y.1, y.2, rfl, hV, hR, hg, hS, rfl⟩
theorem isB_kd {k : Int} {x : ByteArray} {ts : Ts} (h : isB k x ts = true) : kd ts = k ∧ tx ts = x := by
 unfold isB at h
 simpa using h
theorem isB_cons {k : Int} {ts : Ts} (hk : k ≠ 0) (h : kd ts = k) : ∃ t ts', ts = t :: ts' := by
 cases ts with
 | nil => exact absurd h.symm hk
 | cons t ts' => exact ⟨t, ts', rfl⟩
theorem skip_any (r E : Nat) (k : Int) (x : ByteArray) (ts : Ts) (hk : k ≠ 0) (w : World) (hR : Rd r E w ts) :
 Calls Tryz.prog 179 #[rp r, .int .i64 k, .string x] w fun e w' => e = .returned (.bool (isB k x ts)) ∧ Rg r w w' ∧ Rd r E w' (if isB k x ts then ts.tail else ts) := by
 have HI := Hd (fun W hW => is_any r E k x ts W hW)
 have HR := Hd hR
 cases hB : isB k x ts with
 | false =>
  rw [hB] at HI
  clear hR
  go_enter Tryz.func179, Tryz.ntmps179
  go_wp2_with (go_at_call 191; (with_reducible refine (HI.out _ HR.out).mono ?_); rintro e w1 ⟨rfl, hb⟩; have HB := Hd hb; clear hb)
  go_ret
  exact ⟨rfl, Rg.of_below HB.out, HR.out.below HB.out⟩
 | true =>
  rw [hB] at HI
  have hK := (isB_kd hB).1
  have HT : RowKit.Hid (∀ W, Rd r E W ts → Calls Tryz.prog 180 #[rp r, .int .i64 k] W (Got r E (fun _ _ v s => v = .string s) W (.ok (tx ts, ts.tail)))) := by
   refine Hd (fun W hW => ?_)
   have h := take_any r E k ts hk W hW
   rwa [show takeP E k ts = .ok (tx ts, ts.tail) from if_pos hK] at h
  clear hR hB hK
  go_enter Tryz.func179, Tryz.ntmps179
  go_wp2_with (first
   | (go_at_call 191; (with_reducible refine (HI.out _ HR.out).mono ?_); rintro e w1 ⟨rfl, hb⟩; have HB := Hd hb; have HR1 := Hd (HR.out.below hb); clear hb)
   | (go_at_call 180; (with_reducible refine (HT.out _ HR1.out).mono ?_); rintro e w2 ⟨hg, ⟨v, rfl, rfl⟩, hr2⟩; have HG := Hd hg; have HR2 := Hd hr2; clear hg hr2))
  go_ret
  exact ⟨rfl, (Rg.of_below HB.out).trans HG.out, HR2.out⟩
def Skp (r E : Nat) (ts : Ts) (b : Bool) (w : World) (e : Ending) (w' : World) : Prop := e = .returned (.bool b) ∧ Rg r w w' ∧ Rd r E w' (if b then ts.tail else ts)
theorem skipKey_any (r E : Nat) (x : ByteArray) (ts : Ts) (w : World) (hR : Rd r E w ts) : Calls Tryz.prog 130 #[rp r, .string x] w (Skp r E ts (isB 7 x ts) w) := by
 have HI := Hd (skip_any r E 7 x ts (by decide) w hR)
 generalize isB 7 x ts = b at *
 clear hR
 go_enter Tryz.func130, Tryz.ntmps130
 go_wp2_with (go_at_call 179; (with_reducible refine HI.out.mono ?_); rintro e w1 ⟨rfl, h⟩; have HG := Hd h; clear h)
 go_ret
 exact ⟨rfl, HG.out⟩
theorem skipSign_any (r E : Nat) (x : ByteArray) (ts : Ts) (w : World) (hR : Rd r E w ts) : Calls Tryz.prog 139 #[rp r, .string x] w (Skp r E ts (isB 8 x ts) w) := by
 have HI := Hd (skip_any r E 8 x ts (by decide) w hR)
 generalize isB 8 x ts = b at *
 clear hR
 go_enter Tryz.func139, Tryz.ntmps139
 go_wp2_with (go_at_call 179; (with_reducible refine HI.out.mono ?_); rintro e w1 ⟨rfl, h⟩; have HG := Hd h; clear h)
 go_ret
 exact ⟨rfl, HG.out⟩
def UnV (_ _ : World) (v : Value) (_ : Unit) : Prop := v = .tuple #[]
theorem key_any (r E : Nat) (x : ByteArray) (ts : Ts) (w : World) (hR : Rd r E w ts) : Calls Tryz.prog 182 #[rp r, .string x] w (Got r E UnV w (keyP E 7 x ts)) := by
 have HI := Hd (skipKey_any r E x ts w hR)
 have HF := Hd (fun W hW => fault_at r E 10 ts W hW 10 rfl)
 unfold keyP
 cases hB : isB 7 x ts with
 | true =>
  rw [hB] at HI
  rw [if_pos rfl]
  clear hR HF
  go_enter Tryz.func182, Tryz.ntmps182
  go_wp2_with (go_at_call 130; (with_reducible refine HI.out.mono ?_); rintro e w1 ⟨rfl, hg, hr⟩; have HG := Hd hg; have HR1 := Hd hr; clear hg hr)
  exact ⟨rfl, .tuple #[], by simp [results, Tryz.results182, go_sem], HG.out, ⟨_, rfl, rfl⟩, HR1.out⟩
 | false =>
  rw [hB] at HI
  rw [if_neg (by decide)]
  clear hR
  go_enter Tryz.func182, Tryz.ntmps182
  go_wp2_with (first
   | (go_at_call 130; (with_reducible refine HI.out.mono ?_); rintro e w1 ⟨rfl, hg, hr⟩; have HG := Hd hg; have HR1 := Hd hr; clear hg hr)
   | (go_at_call 123; (with_reducible refine (HF.out _ HR1.out).mono ?_); rintro e w2 ⟨rfl, hb⟩; have HB2 := Hd hb; clear hb))
  exact ⟨rfl, HG.out.trans (Rg.of_below HB2.out), rfl⟩
theorem sign_any (r E : Nat) (x : ByteArray) (ts : Ts) (w : World) (hR : Rd r E w ts) : Calls Tryz.prog 125 #[rp r, .string x] w (Got r E UnV w (keyP E 8 x ts)) := by
 have HI := Hd (skipSign_any r E x ts w hR)
 have HF := Hd (fun W hW => fault_at r E 10 ts W hW 10 rfl)
 unfold keyP
 cases hB : isB 8 x ts with
 | true =>
  rw [hB] at HI
  rw [if_pos rfl]
  clear hR HF
  go_enter Tryz.func125, Tryz.ntmps125
  go_wp2_with (go_at_call 139; (with_reducible refine HI.out.mono ?_); rintro e w1 ⟨rfl, hg, hr⟩; have HG := Hd hg; have HR1 := Hd hr; clear hg hr)
  exact ⟨rfl, .tuple #[], by simp [results, Tryz.results125, go_sem], HG.out, ⟨_, rfl, rfl⟩, HR1.out⟩
 | false =>
  rw [hB] at HI
  rw [if_neg (by decide)]
  clear hR
  go_enter Tryz.func125, Tryz.ntmps125
  go_wp2_with (first
   | (go_at_call 139; (with_reducible refine HI.out.mono ?_); rintro e w1 ⟨rfl, hg, hr⟩; have HG := Hd hg; have HR1 := Hd hr; clear hg hr)
   | (go_at_call 123; (with_reducible refine (HF.out _ HR1.out).mono ?_); rintro e w2 ⟨rfl, hb⟩; have HB2 := Hd hb; clear hb))
  exact ⟨rfl, HG.out.trans (Rg.of_below HB2.out), rfl⟩
theorem begin_ok (r E : Nat) (d : Nat) (hd : d ≤ 40) (ts : Ts) (w : World) (hR : Rd r E w ts) : Calls Tryz.prog 129 #[rp r, .int .i64 (d : Nat)] w fun e w' => e = .returned (.tuple #[]) ∧ w = w' := by
 have h : decide ((40 : Int) < (d : Int)) = false := by simp; omega
 go_enter Tryz.func129, Tryz.ntmps129
 go_wp2
 exact ⟨rfl, .tuple #[], by simp [results, Tryz.results129, go_sem], rfl, rfl⟩
theorem begin_no (r E : Nat) (d : Nat) (hd : 40 < d) (ts : Ts) (w : World) (hR : Rd r E w ts) : Calls Tryz.prog 129 #[rp r, .int .i64 (d : Nat)] w fun e w' => e = .panicked (flt ((nx E ts).2, 9)) ∧ Rg r w w' := by
 have h : decide ((40 : Int) < (d : Int)) = true := by simp; omega
 have HF := Hd (fault_at r E 9 ts w hR 9 rfl)
 go_enter Tryz.func129, Tryz.ntmps129
 go_wp2_with (go_at_call 123; (with_reducible refine HF.out.mono ?_); rintro e w2 ⟨rfl, hb⟩; have HB2 := Hd hb; clear hb)
 exact ⟨rfl, rfl, Rg.of_below HB2.out⟩
theorem beginsAtom_any (r E : Nat) (ts : Ts) (w : World) (hR : Rd r E w ts) : Calls Tryz.prog 186 #[rp r] w fun e w' => e = .returned (.bool (begB ts)) ∧ Below w.heap.size w w' := by
 have HI := Hd (fun W hW => is_any r E 8 sOpen ts W hW)
 have HN := Hd (fun W hW => next_any r E ts W hW)
 have HR := Hd hR
 have hnx : (nx E ts).1 = (nx 0 ts).1 := by cases ts <;> rfl
 unfold tokV at HN
 unfold begB kd
 rw [← hnx]
 generalize isB 8 sOpen ts = b at *
 generalize nx E ts = T at *
 obtain ⟨⟨tk, tz, tn⟩, ta⟩ := T
 have HN2 : RowKit.Hid (∀ W, Rd r E W ts → Calls Tryz.prog 173 #[rp r] W fun e w' => e = .returned (.agg #[.int .i64 tk, .string tz, .int .i64 tn, .int .i64 (ta : Nat)]) ∧ Below W.heap.size W w') := HN
 clear hR HN hnx
 show Calls _ _ _ _ fun e w' => e = .returned (.bool (decide (tk = 4) || decide (tk = 5) || decide (tk = 1) || decide (tk = 2) || b)) ∧ _
 by_cases h4 : tk = 4
 · subst h4
   simp only [decide_true, Bool.true_or]
   go_enter Tryz.func186, Tryz.ntmps186
   go_wp2_with (go_at_call 173; (with_reducible refine (HN2.out _ HR.out).mono ?_); rintro e w1 ⟨rfl, hb⟩; have HB := Hd hb; clear hb)
   go_ret
   exact ⟨rfl, HB.out.alloc HB.out.size _⟩
 by_cases h5 : tk = 5
 · subst h5
   simp only [decide_true, Bool.true_or, Bool.or_true]
   go_enter Tryz.func186, Tryz.ntmps186
   go_wp2_with (go_at_call 173; (with_reducible refine (HN2.out _ HR.out).mono ?_); rintro e w1 ⟨rfl, hb⟩; have HB := Hd hb; clear hb)
   go_ret
   exact ⟨rfl, HB.out.alloc HB.out.size _⟩
 by_cases h1 : tk = 1
 · subst h1
   simp only [decide_true, Bool.true_or, Bool.or_true]
   go_enter Tryz.func186, Tryz.ntmps186
   go_wp2_with (go_at_call 173; (with_reducible refine (HN2.out _ HR.out).mono ?_); rintro e w1 ⟨rfl, hb⟩; have HB := Hd hb; clear hb)
   go_ret
   exact ⟨rfl, HB.out.alloc HB.out.size _⟩
 by_cases h2 : tk = 2
 · subst h2
   simp only [decide_true, Bool.true_or, Bool.or_true]
   go_enter Tryz.func186, Tryz.ntmps186
   go_wp2_with (go_at_call 173; (with_reducible refine (HN2.out _ HR.out).mono ?_); rintro e w1 ⟨rfl, hb⟩; have HB := Hd hb; clear hb)
   go_ret
   exact ⟨rfl, HB.out.alloc HB.out.size _⟩
 have d4 : (tk == 4) = false := by simpa using h4
 have d5 : (tk == 5) = false := by simpa using h5
 have d1 : (tk == 1) = false := by simpa using h1
 have d2 : (tk == 2) = false := by simpa using h2
 rw [decide_eq_false h4, decide_eq_false h5, decide_eq_false h1, decide_eq_false h2]
 simp only [Bool.false_or]
 go_enter Tryz.func186, Tryz.ntmps186
 go_wp2_with (first
   | (go_at_call 173; (with_reducible refine (HN2.out _ HR.out).mono ?_); rintro e w1 ⟨rfl, hb⟩; have HB := Hd hb; have HR1 := Hd (HR.out.below hb); clear hb)
   | (go_at_call 191; (with_reducible refine (HI.out _ (by exact HR1.out.alloc _)).mono ?_); rintro e w2 ⟨rfl, hb⟩; have HB2 := Hd hb; clear hb))
 go_ret
 exact ⟨rfl, (HB.out.alloc HB.out.size _).trans (HB2.out.mono (by have := HB.out.size; simp; omega))⟩
def Fits (t : Tk) : Prop := -9223372036854775808 ≤ t.n ∧ t.n ≤ 9223372036854775807
theorem cellsT_at : ∀ (l : List (Tk × Nat)) (i : Nat) (x : Tk × Nat), l[i]? = some x → (cellsT l)[i * 4]? = some (.int .i64 x.1.k) ∧ (cellsT l)[i * 4 + 1]? = some (.string x.1.s) ∧ (cellsT l)[i * 4 + 2]? = some (.int .i64 x.1.n) ∧ (cellsT l)[i * 4 + 3]? = some (.int .i64 (x.2 : Nat)) := by
 intro l
 induction l with
 | nil => intro i x h; cases h
 | cons y l ih =>
  intro i x h
  have hc : cellsT (y :: l) = .int .i64 y.1.k :: .string y.1.s :: .int .i64 y.1.n :: .int .i64 (y.2 : Nat) :: cellsT l := by unfold cellsT; rw [List.flatMap_cons]; rfl
  rw [hc]
  cases i with
  | zero => cases h; exact ⟨rfl, rfl, rfl, rfl⟩
  | succ i =>
   have h' : l[i]? = some x := h
   obtain ⟨h0, h1, h2, h3⟩ := ih i x h'
   have e0 : (i + 1) * 4 = i * 4 + 1 + 1 + 1 + 1 := by omega
   have e1 : (i + 1) * 4 + 1 = i * 4 + 1 + 1 + 1 + 1 + 1 := by omega
   have e2 : (i + 1) * 4 + 2 = i * 4 + 2 + 1 + 1 + 1 + 1 := by omega
   have e3 : (i + 1) * 4 + 3 = i * 4 + 3 + 1 + 1 + 1 + 1 := by omega
   rw [e3, e2, e1, e0]
   simp only [List.getElem?_cons_succ]
   exact ⟨h0, h1, h2, h3⟩
theorem tk0_fits : Fits tk0 := by unfold Fits tk0; simp
theorem int_fits {l : List UInt8} (h : intM l ≠ 0) : -9223372036854775808 ≤ intV l ∧ intV l ≤ 9223372036854775807 := by
 cases hp : Lib.hasPrefix l [45]
 · obtain ⟨e1, e2, e3⟩ := intM_plain hp h
   obtain ⟨m, hm, hs⟩ := intD_dec e2 e3
   have hV : intV l = (m : Int) := by unfold intV; rw [hp, hm]; rfl
   omega
 · obtain ⟨e1, e0, e2, e3⟩ := intM_neg hp h
   obtain ⟨m, hm, hs⟩ := intD_dec e2 e3
   have hV : intV l = -(m : Int) := by unfold intV; rw [hp, hm]; rfl
   omega
theorem nameT_fits (kind : Int) (l : List UInt8) : Fits (nameT kind (ofL l)).1 ∧ (nameT kind (ofL l)).1.s.size ≤ l.length := by
 rw [nameT_ofL]
 split
 · exact ⟨tk0_fits, Nat.zero_le _⟩
 · refine ⟨by unfold Fits; simp, ?_⟩
   show (ofL _).size ≤ _
   rw [ofL_size, List.length_take]; omega
theorem txF_said (L : List UInt8) : ∀ (f i : Nat) (said r : List UInt8) (n : Nat), txF L f i said = some (r, n) → r.length ≤ said.length + (L.length - i) := by
 intro f
 induction f with
 | zero => intro i said r n h; cases h
 | succ f ih =>
  intro i said r n h
  unfold txF at h
  split at h
  · cases h
  · cases hc : L[i]? with
    | none => rw [hc] at h; cases h
    | some c =>
     have hi := (List.getElem?_eq_some_iff.1 hc).1
     rw [hc] at h
     simp only [] at h
     split at h
     · cases h; omega
     · split at h
       · cases h
       · split at h
         · cases hd : L[i + 1]? with
           | none => rw [hd] at h; cases h
           | some d =>
            rw [hd] at h
            simp only [] at h
            split at h
            · have := ih _ _ _ _ h
              rw [List.length_append, List.length_singleton] at this
              omega
            · cases h
         · have := ih _ _ _ _ h
           rw [List.length_append, List.length_singleton] at this
           omega
theorem first_fits (l : List UInt8) : Fits (firstT (ofL l)).1 ∧ (firstT (ofL l)).1.s.size ≤ l.length := by
 have hz : ∀ k, Fits tk0 ∧ tk0.s.size ≤ k := fun k => ⟨tk0_fits, Nat.zero_le _⟩
 cases hc : l[0]? with
 | none => rw [firstT_none hc]; exact hz _
 | some c =>
  rw [firstT_at hc]
  split
  · exact nameT_fits _ _
  · split
    · exact nameT_fits _ _
    · split
      · rw [varT_ofL]
        split
        · exact hz _
        · refine ⟨by unfold Fits; simp, ?_⟩
          show (ofL _).size ≤ _
          rw [ofL_size, List.length_take, List.length_drop]; omega
      · split
        · unfold textT
          rw [ofL_list]
          cases h : txM l 1 [] with
          | none => exact hz _
          | some x =>
           obtain ⟨r, n⟩ := x
           refine ⟨by unfold Fits txR; simp, ?_⟩
           show (ofL r).size ≤ _
           rw [ofL_size]
           have := txF_said _ _ _ _ _ _ h
           simp at this
           omega
        · split
          · rw [numT_ofL]
            split
            · refine ⟨by unfold Fits; simp, ?_⟩
              show (ofL _).size ≤ _
              rw [ofL_size, List.length_take]; omega
            · split
              · exact hz _
              · rename_i hi
                exact ⟨int_fits hi, Nat.zero_le _⟩
          · rw [signT_ofL]
            split
            · refine ⟨by unfold Fits; simp, ?_⟩
              show (ofL _).size ≤ _
              rw [ofL_size, List.length_take]; omega
            · split
              · refine ⟨by unfold Fits; simp, ?_⟩
                show (ofL _).size ≤ _
                rw [ofL_size, List.length_take]; omega
              · exact hz _
theorem Lexed.fits {l : List UInt8} {i : Nat} {r : List (Tk × Nat)} (h : Lexed l i r) : ∀ x ∈ r, Fits x.1 ∧ x.1.s.size ≤ l.length := by
 induction h with
 | nil i => intro x hx; cases hx
 | cons l i n m t r h h0 hm hr ih =>
  intro x hx
  cases hx with
  | head =>
   have := first_fits l
   rw [h] at this
   exact this
  | tail _ hx =>
   have := ih x hx
   rw [List.length_drop] at this
   exact ⟨this.1, by omega⟩

theorem lexM_small {s : ByteArray} (h : (lexM s).2.2 = 0) : s.size ≤ 20000 ∧ (lexM s).1.length ≤ 6000 ∧ ∀ x ∈ (lexM s).1, Fits x.1 ∧ x.1.s.size ≤ 20000 := by
 obtain ⟨h1, h2, h3, _⟩ := lexM_lexed h
 refine ⟨h1, h3, fun x hx => ?_⟩
 obtain ⟨e1, e2⟩ := h2.fits x hx
 refine ⟨e1, Nat.le_trans e2 ?_⟩
 rw [List.length_drop, len_list]
 omega
theorem TkRow.tok {B r : Nat} {w : World} {v : Value} {l : List (Tk × Nat)} (h : TkRow B w v l) (hr : w.heap.size ≤ r) (hl : l.length ≤ 6000) (hz : ∀ x ∈ l, x.1.s.size ≤ 4194304) : TokS r w v l := by
 rcases h.2 with ⟨hv, h0⟩ | ⟨g, cap, cur, hv, hb, hg, hn, hc, _⟩
 · have := List.eq_nil_of_length_eq_zero h0
   subst this
   exact ⟨Option.none, 0, hv, Nat.le_refl _, Nat.zero_le _, hl, fun i x hx => by cases hx⟩
 · subst hv
   have hgl := hb_lt hg
   refine ⟨some ⟨g, 0, Option.none⟩, cap, rfl, hn, hc, hl, fun i x hx => ⟨hz x (List.mem_of_getElem? hx), g, 0, rfl, by omega, ?_⟩⟩
   obtain ⟨h0, h1, h2, h3⟩ := cellsT_at l i x hx
   have hc := World.ownsRow.cells h (g := g) rfl
   refine ⟨?_, ?_, ?_, ?_⟩
   · have := hc _ _ h0; rw [add_zero_none] at this; rw [Nat.zero_add]; exact this
   · have := hc _ _ h1; rw [add_zero_none] at this; rw [Nat.zero_add]; exact this
   · have := hc _ _ h2; rw [add_zero_none] at this; rw [Nat.zero_add]; exact this
   · have := hc _ _ h3; rw [add_zero_none] at this; rw [Nat.zero_add]; exact this
end Go.Proofs.YtmkjalnlldpdcaaGreatDoor
namespace Go.Proofs
open Go.Shelf
def Tryz.lays156_ren : Go.Shelf.Ren := ⟨fun | 156 => 152 | 165 => 204 | 166 => 149 | 169 => 48 | 240 => 202 | 241 => 246 | 276 => 244 | 277 => 268 | n => n, fun | 31 => 57 | 9 => 9 | 3 => 3 | 4 => 4 | 0 => 0 | 20 => 20 | 72 => 74 | 76 => 167 | 70 => 71 | 37 => 72 | 75 => 166 | 127 => 129 | 164 => 216 | 5 => 5 | 80 => 87 | n => n, fun | n => n⟩
theorem Tryz.lays156 : Go.Proofs.Lays.n156 Tryz.prog Tryz.lays156_ren := {
 mixed := by kernel_rfl
 f156 := Tryz.func152.trans (congrArg some (by kernel_rfl))
 f165 := Tryz.func204.trans (congrArg some (by kernel_rfl))
 f166 := Tryz.func149.trans (congrArg some (by kernel_rfl))
 f169 := Tryz.func48.trans (congrArg some (by kernel_rfl))
 f240 := Tryz.func202.trans (congrArg some (by kernel_rfl))
 f241 := Tryz.func246.trans (congrArg some (by kernel_rfl))
 f276 := Tryz.func244.trans (congrArg some (by kernel_rfl))
 f277 := Tryz.func268.trans (congrArg some (by kernel_rfl))
 t0 := Tryz.underlying0
 a0 := Tryz.isAgg0
 z0 := Tryz.sizeOf0
 v0 := Tryz.zeroValue0
 t3 := Tryz.underlying3
 a3 := Tryz.isAgg3
 z3 := Tryz.sizeOf3
 v3 := Tryz.zeroValue3
 t4 := Tryz.underlying4
 a4 := Tryz.isAgg4
 z4 := Tryz.sizeOf4
 v4 := Tryz.zeroValue4
 t9 := Tryz.underlying9
 a9 := Tryz.isAgg9
 z9 := Tryz.sizeOf9
 v9 := Tryz.zeroValue9
 t20 := Tryz.underlying20
 a20 := Tryz.isAgg20
 z20 := Tryz.sizeOf20
 v20 := Tryz.zeroValue20
 t31 := Tryz.underlying57
 a31 := Tryz.isAgg57
 z31 := Tryz.sizeOf57
 v31 := Tryz.zeroValue57
 t37 := Tryz.underlying72
 a37 := Tryz.isAgg72
 z37 := Tryz.sizeOf72
 v37 := Tryz.zeroValue72
 t70 := Tryz.underlying71
 a70 := Tryz.isAgg71
 z70 := Tryz.sizeOf71
 v70 := Tryz.zeroValue71
 t72 := Tryz.underlying74
 a72 := Tryz.isAgg74
 z72 := Tryz.sizeOf74
 v72 := Tryz.zeroValue74
 t75 := Tryz.underlying166
 a75 := Tryz.isAgg166
 z75 := Tryz.sizeOf166
 v75 := Tryz.zeroValue166
 t76 := Tryz.underlying167
 a76 := Tryz.isAgg167
 z76 := Tryz.sizeOf167
 v76 := Tryz.zeroValue167
 t127 := Tryz.underlying129
 a127 := Tryz.isAgg129
 z127 := Tryz.sizeOf129
 v127 := Tryz.zeroValue129
 t164 := Tryz.underlying216
 a164 := Tryz.isAgg216
 z164 := Tryz.sizeOf216
 v164 := Tryz.zeroValue216 }
theorem Tryz.Builder_Extra_156 : Builder.Extra Tryz.prog Tryz.lays156_ren := {
 sizeBuilder := by kernel_rfl
 liesBuilder := by kernel_rfl
 t5 := Tryz.underlying5
 a5 := Tryz.isAgg5
 z5 := Tryz.sizeOf5
 v5 := Tryz.zeroValue5
 infoByte := by kernel_rfl
 cellsByte := by kernel_rfl
 sizeByte := by kernel_rfl
 neB5 := by decide }
open Go.RowKit in
theorem Tryz.strings_Join_none (a : Option Addr) (c : Nat) (sep : ByteArray) (w : World) :
 Calls Tryz.prog 152 #[.slice a 0 c, .string sep] w fun e w' => e = .returned (.string ⟨#[]⟩) ∧ w' = w := Any.strings_Join_none Tryz.lays156 Tryz.Builder_Extra_156 a c sep w
open Go.RowKit in
theorem Tryz.strings_Join (bk o c : Nat) (xs : List ByteArray) (sep : ByteArray) (w : World) (hcells : ∀ (j : Nat) x, xs[j]? = some x → w.cell? ⟨bk, o + j, none⟩ = some (.string x)) (hbk : bk < w.heap.size) (hN : xs.length ≤ 140737488355328) (hcap : xs.length ≤ c) (hlen : (Lib.join (xs.map (·.data.toList)) sep.data.toList).length ≤ 140737488355328) :
 Calls Tryz.prog 152 #[.slice (some ⟨bk, o, none⟩) xs.length c, .string sep] w fun e w' => e = .returned (.string ⟨(Lib.join (xs.map (·.data.toList)) sep.data.toList).toArray⟩) ∧ Below w.heap.size w w' := Any.strings_Join Tryz.lays156 Tryz.Builder_Extra_156 bk o c xs sep w hcells hbk hN hcap hlen
end Go.Proofs
namespace Go.Proofs.YtmkjalnlldpdcaaGreatDoor
open Go.RowKit
set_option linter.unusedSimpArgs false
set_option linter.unusedVariables false
abbrev Tab (w : World) : Prop := Lib.TabBelow Tryz.prog w.heap.size w "internal/strconv.uint64pow10" .u64 Lib.pow10Tab
theorem Tab.on {w w' : World} (h : Tab w) (hb : Below w.heap.size w w') : Tab w' := fun u hu => h u (hb.trans (hu.mono hb.size))
def LxW (w : World) : Prop := EscW w ∧ Tab w
theorem LxW.below {w w' : World} (h : LxW w) (hb : Below w.heap.size w w') : LxW w' := by
 exact ⟨h.1.below hb h.1.pos, h.2.on hb⟩
theorem itoaT_any (n : Int) (h0 : -9223372036854775808 ≤ n) (h : n ≤ 9223372036854775807) (w : World) (ht : Tab w) : Calls Tryz.prog 151 #[.int .i64 n] w fun e w' => e = .returned (.string (ofL (Lib.itoa n))) ∧ Below w.heap.size w w' :=
 (Tryz.strconv_Itoa n h0 h w (Lib.TabBelow.here ht)).mono fun e w' ⟨he, k, os, hw⟩ => ⟨he, by rw [hw]; exact Lib.below_grow _ w (Nat.le_refl _) k os⟩
theorem str_add (a b : ByteArray) : a ++ b = ofL (a.data.toList ++ b.data.toList) := by
 apply ByteArray.ext
 simp [ofL]
theorem tell_any (t : Tk) (a : Int) (hm : t.s.size ≤ 4194304) (hf : Fits t) (w : World) (hw : LxW w) :
 Calls Tryz.prog 200 #[t.v a] w fun e w' => e = .returned (.string (ofL (tellT t))) ∧ Below w.heap.size w w' := by
 obtain ⟨k, s, n⟩ := t
 have hm' : s.size ≤ 4194304 := hm
 have hf0 : -9223372036854775808 ≤ n := hf.1
 have hf1 : n ≤ 9223372036854775807 := hf.2
 have HW := Hd hw
 clear hw hm hf
 unfold Tk.v
 show Calls Tryz.prog 200 #[.agg #[.int .i64 k, .string s, .int .i64 n, .int .i64 a]] w _
 by_cases h3 : k = 3
 · subst h3
   have he : tellT ⟨3, s, n⟩ = 39 :: s.data.toList := rfl
   have hs : (⟨#[39]⟩ : ByteArray) ++ s = ofL (39 :: s.data.toList) := str_add _ _
   rw [he]
   go_enter Tryz.func200, Tryz.ntmps200
   go_wp2
   go_ret
   exact ⟨rfl, below_alloc w _⟩
 by_cases h4 : k = 4
 · subst h4
   have he : tellT ⟨4, s, n⟩ = Lib.itoa n := rfl
   rw [he]
   have HI := Hd (fun W hW => itoaT_any n hf0 hf1 W hW)
   go_enter Tryz.func200, Tryz.ntmps200
   go_wp2_with (go_at_call 151; refine (HI.out _ (HW.out.below (below_alloc w _)).2).mono ?_; rintro e w1 ⟨rfl, hb⟩)
   go_ret
   exact ⟨rfl, (below_alloc w _).trans (hb.mono (by simp))⟩
 by_cases h5 : k = 5
 · subst h5
   have he : tellT ⟨5, s, n⟩ = telL s.data.toList := rfl
   rw [he]
   have HI := Hd (fun W hW => tellText_any s hm' W hW)
   go_enter Tryz.func200, Tryz.ntmps200
   go_wp2_with (go_at_call 233; refine (HI.out _ (HW.out.below (below_alloc w _)).1).mono ?_; rintro e w1 ⟨rfl, hb⟩)
   go_ret
   exact ⟨rfl, (below_alloc w _).trans (hb.mono (by simp))⟩
 have he : ofL (tellT ⟨k, s, n⟩) = s := by
   unfold tellT
   rw [if_neg h3, if_neg h4, if_neg h5]
 rw [he]
 clear he
 have d3 : (k == 3) = false := by rw [beq_eq_false_iff_ne]; exact h3
 have d4 : (k == 4) = false := by rw [beq_eq_false_iff_ne]; exact h4
 have d5 : (k == 5) = false := by rw [beq_eq_false_iff_ne]; exact h5
 go_enter Tryz.func200, Tryz.ntmps200
 go_wp2
 go_ret
 exact ⟨rfl, below_alloc w _⟩
def TkAt (w : World) (b o : Nat) (t : Tk) (a : Int) : Prop :=
 w.cell? ⟨b, o, none⟩ = some (.int .i64 t.k) ∧ w.cell? ⟨b, o + 1, none⟩ = some (.string t.s) ∧ w.cell? ⟨b, o + 2, none⟩ = some (.int .i64 t.n) ∧ w.cell? ⟨b, o + 3, none⟩ = some (.int .i64 a)
theorem TkAt.below {w w' : World} {b o : Nat} {t : Tk} {a : Int} (h : TkAt w b o t a) (hb : Below w.heap.size w w') : TkAt w' b o t a := by
 have hlt : b < w.heap.size := block_lt_of_cell h.1
 have hk : ∀ j, w'.cell? ⟨b, j, none⟩ = w.cell? ⟨b, j, none⟩ := fun j => hb.cell (p := ⟨b, j, none⟩) hlt
 exact ⟨by rw [hk, h.1], by rw [hk, h.2.1], by rw [hk, h.2.2.1], by rw [hk, h.2.2.2]⟩
def TksAt (w : World) (v : Value) (l : List (Tk × Int)) : Prop := ∃ q c, v = .slice q l.length c ∧ ∀ i x, l[i]? = some x → ∃ b o, q = some ⟨b, o, none⟩ ∧ TkAt w b (o + i * 4) x.1 x.2
theorem TksAt.below {w w' : World} {v : Value} {l : List (Tk × Int)} (h : TksAt w v l) (hb : Below w.heap.size w w') : TksAt w' v l := by
 obtain ⟨q, c, h1, h2⟩ := h
 refine ⟨q, c, h1, fun i x hx => ?_⟩
 obtain ⟨b, o, e, ha⟩ := h2 i x hx
 exact ⟨b, o, e, ha.below hb⟩
end Go.Proofs.YtmkjalnlldpdcaaGreatDoor
