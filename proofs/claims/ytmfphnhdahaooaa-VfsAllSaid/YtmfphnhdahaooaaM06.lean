/- The texts Vg, Ra, one behind the other. -/
import Derived.Test.YtmfphnhdahaooaaM05
import Derived.Test.YtmfphnhdahaooaaM01
import Derived.IntWalk
import Derived.BigQuiet
import Derived.Deep.QuietTactic
set_option linter.unusedSimpArgs false
set_option linter.unusedVariables false
/- Write of a file that there is not, of at least one byte, where there is room: it comes to be with these bytes. -/
namespace Go.Proofs.Ytmfphnhdahaooaa
open Go.RowKit Go.Maps

theorem size_nil (w : World) : Calls Try.prog 57 #[.pointer none] w fun e w' => e = .returned (.int .i64 0) ∧ w = w' := by
  go_enter Try.func57, Try.ntmps57
  go_wp2
  go_ret
  exact ⟨rfl, rfl⟩

theorem quiet_sum {P : Program} {f : FuncId} {args : Array Value} {w : World} {a n : Nat} {v : Value}
    (h : Calls P f args (w.drewN (a + n)) fun e w' => e = .returned v ∧ w.drewN (a + n) = w') :
    Calls P f args (w.drewN (a + n)) fun e w2 => e = .returned v ∧ ∃ m, w2 = w.drewN (a + m) :=
  h.mono fun _ _ h2 => ⟨h2.1, n, h2.2.symm⟩
theorem sectors_zero (w : World) : Calls Try.prog 53 #[.int .i64 0] w fun e w' => e = .returned (.int .i64 0) ∧ w = w' := by
  go_enter Try.func53, Try.ntmps53
  go_wp2
  go_ret
  exact ⟨rfl, rfl⟩

structure Wrote (F N L : Nat) (cap used : Nat) (tv : Value) (n : Nat) (ts : List Value) (s : ByteArray) (es : Array MapEntry) (clock : Nat) (news : List Value) (w w' : World) : Prop where
  all : ∃ X bv tv' g, w'.heap[F]? = some (.cells (fsCells cap (used + (news.length + 511) / 512 : Nat) N L tv') 82 (0, 0)) ∧ w'.ownsRow 0 87 4 tv' (n + 1) (ts ++ turnCells s ⟨#[]⟩ X) ∧
    w'.heap[N]? = some (.map (es.push ⟨.string s, .pointer (some ⟨X, 0, none⟩), clock⟩) (clock + 1)) ∧ w'.heap[X]? = some (.cells #[bv, .slice none 0 0] 85 (0, 0)) ∧
    w'.ownsRow 0 5 1 bv news.length news ∧ w.heap.size ≤ X ∧ bv.ownBlock = some g ∧ w.heap.size ≤ g
  size : w.heap.size ≤ w'.heap.size
  rest : w'.os = w.os ∧ w'.tape = w.tape ∧ w'.output = w.output
  kept : ∀ j x, j ≠ N → j ≠ F → some j ≠ tv.ownBlock → w.heap[j]? = some x → w'.heap[j]? = some x

set_option maxRecDepth 100000 in
set_option maxHeartbeats 2000000 in
theorem write_new (F N L S c cap used : Nat) (tv : Value) (n : Nat) (ts : List Value) (s : ByteArray) (es : Array MapEntry) (clock : Nat) (news : List Value) (fr : Nat × Nat) (w : World)
    (hF : w.heap[F]? = some (.cells (fsCells cap used N L tv) 82 (0, 0))) (hN : w.heap[N]? = some (.map es clock)) (hT : w.ownsRow 0 87 4 tv n ts) (hn : n ≤ 1000000)
    (hS : w.heap[S]? = some (.cells news.toArray 5 fr)) (hk : 0 < news.length) (hkc : news.length ≤ c) (hk3 : news.length ≤ 3000) (hone : ∀ u ∈ news, u.oneCell' = true)
    (hs1 : 1 ≤ s.size) (hs2 : s.size ≤ 30) (hs : ∀ (k : Nat) (hk : k < s.size), NameB s[k])
    (hc0 : 0 < cap) (hc1 : cap ≤ 4096) (hu : used + (news.length + 511) / 512 ≤ cap)
    (hf : ∀ w, (Instr.findKey 9 (.string s) es.toList).run Try.prog w = .ok none w)
    (hf2 : ∀ X w, (Instr.findKey 9 (.string s) (es.push ⟨.string s, .pointer (some ⟨X, 0, none⟩), clock⟩).toList).run Try.prog w = .ok (some (es.size, .pointer (some ⟨X, 0, none⟩))) w) :
    Calls Try.prog 25 #[.pointer (some ⟨F, 0, none⟩), .string s, .int .i64 0, .slice (some ⟨S, 0, none⟩) news.length c] w fun e w' => e = .returned (.int .i64 0) ∧ Wrote F N L cap used tv n ts s es clock news w w' := by
  have c0 : w.cell? ⟨F, 0, none⟩ = some (.int .i64 cap) := hb_at hF 0 rfl
  have c1 : w.cell? ⟨F, 1, none⟩ = some (.int .i64 used) := hb_at hF 1 rfl
  have c2 : w.cell? ⟨F, 2, none⟩ = some (.map (some N)) := hb_at hF 2 rfl
  have st := fun w1 (h : w1.heap = w.heap) => step_ok F w1 (by rw [World.cell?, h]; exact hb_at hF 5 rfl) (by rw [World.cell?, h]; exact hb_at hF 6 rfl) (by rw [World.cell?, h]; exact hb_at hF 7 rfl) (by rw [World.frozen?, h]; exact hb_free hF 5) (by rw [World.frozen?, h]; exact hb_free hF 6) (by rw [World.frozen?, h]; exact hb_free hF 7)
  have Hst := Lib.hid st
  have Hs := Lib.hid hs
  have Hf := Lib.hid hf
  have Hf2 := Lib.hid hf2
  have Ho := Lib.hid hone
  have Hn := Lib.hid hN
  have HF := Lib.hid hF
  have HS := Lib.hid hS
  clear st hs hf hf2 hone hN hF hS
  obtain ⟨k, hkk⟩ : ∃ k, k = news.length := ⟨_, rfl⟩
  have Hk := Lib.hid hkk
  rw [← hkk] at hk hkc hk3 hu ⊢
  clear hkk
  have q1 : IntKind.i64.wrap ((used : Int) - 0) = used := IntWalk.i64_in _ (by omega)
  have q2 : IntKind.i64.wrap (0 + (k : Int)) = k := by rw [Int.zero_add]; exact IntWalk.i64_in _ (by omega)
  have q3 : IntKind.i64.wrap ((used : Int) + (((k + 511) / 512 : Nat) : Int)) = ((used + (k + 511) / 512 : Nat) : Int) := by rw [IntWalk.i64_in _ (by omega)]; omega
  have Q1 := Lib.hid q1
  have Q2 := Lib.hid q2
  have Q3 := Lib.hid q3
  clear q1 q2 q3
  go_enter Try.func25, Try.ntmps25
  go_wp2_with (first
    | (go_at_call 46; refine (made_yes F cap hc0 _ (by assumption)).mono ?_; rintro e w' ⟨rfl, rfl⟩)
    | (at_lookup; refine wpList_look_raw _ rfl _ _ 79 false rfl 9 78 Try.underlying79 N es clock rfl Hn.out _ rfl (ck9 _ _ _) none (Hf.out _) _ (zero78 _) (.pointer none) rfl ?_)
    | (go_at_call 57; refine (size_nil _).mono ?_; rintro e w' ⟨rfl, rfl⟩)
    | (go_at_call 48; refine (isName_ok s _ hs1 hs2 Hs.out).mono ?_; rintro e w' ⟨rfl, rfl⟩)
    | (go_at_call 44; refine (Hst.out _ rfl).mono ?_; rintro e w' ⟨rfl, n1, rfl⟩)
    | go_in)
  have q1 := Q1.out
  have q2 := Q2.out
  have q3 := Q3.out
  go_quiet ((first | (go_at_call 53; exact quiet_sum (sectors_zero _)) | (go_at_call 53; exact quiet_sum (sectors_any k (by omega) _))))
  clear q1 q2 q3
  have hd1 : (decide ((cap : Int) < ((used + (k + 511) / 512 : Nat) : Int))) = false := by simp; omega
  go_upto_region 15 with (first
    | (at_lookup; refine wpList_look_raw _ rfl _ _ 79 true rfl 9 78 Try.underlying79 N es clock rfl Hn.out _ rfl (ck9 _ _ _) none (Hf.out _) _ (zero78 _) (.tuple #[.pointer none, .bool false]) rfl ?_)
    | (go_at_call 58; refine (do_comes F N L w.heap.size cap used tv n ts s ⟨#[]⟩ es clock _ (hb_alloc (hb_drewN HF.out _) _) (hb_alloc (hb_drewN Hn.out _) _) ((own_drewN hT _).alloc _) hn Hf.out).mono ?_; rintro e w1 ⟨rfl, hD⟩)
    | go_in)
  have Hw1 := Lib.hid hD
  clear hD
  obtain ⟨tv1, hF1, hT1⟩ := Hw1.out.own
  have hnN : N < w.heap.size := hb_lt Hn.out
  have hnF : F < w.heap.size := hb_lt HF.out
  have hX1 := Hw1.out.kept w.heap.size _ (by omega) (by omega) (by
    intro e
    have := (hT.lt _ e.symm).2
    omega) (heap_alloc_new (w.drewN _) _)
  have hS1 := Hw1.out.kept S _ (fun e => by subst e; have h1 := HS.out; have h2 := Hn.out; rw [h1] at h2; cases h2)
    (fun e => by subst e; have h1 := HS.out; have h2 := HF.out; rw [h1] at h2; cases h2) (own_ne hT HS.out (by simp)) (hb_alloc (hb_drewN HS.out _) _)
  have hN1 := Hw1.out.map
  have d2 : w1.cell? ⟨F, 2, none⟩ = some (.map (some N)) := hb_at hF1 2 rfl
  have HF1 := Lib.hid hF1
  have HT1 := Lib.hid hT1
  have HX1 := Lib.hid hX1
  have HS1 := Lib.hid hS1
  have HN1 := Lib.hid hN1
  clear hF1 hT1 hX1 hS1 hN1 hnN hnF
  go_upto_region 16 with (first
    | (at_lookup; refine wpList_look_raw _ rfl _ _ 79 false rfl 9 78 Try.underlying79 N _ _ rfl HN1.out _ rfl (ck9 _ _ _) _ (Hf2.out _ _) _ (zero78 _) (.pointer (some ⟨w.heap.size, 0, none⟩)) rfl ?_)
    | (go_at_call 59; refine (put_nil w.heap.size S c k _ news w1 HX1.out hk hkc (by omega) (by have := Hk.out; omega) (by intro j u hj; rw [hb_cell_add HS1.out]; simpa using hj) Ho.out).mono ?_; rintro e w2 ⟨rfl, hP⟩)
    | go_in)
  have HP := Lib.hid hP
  clear hP
  obtain ⟨bv, hX2, hB2, hbv⟩ := HP.out.own
  have hlN := hb_lt Hn.out
  have hlF := hb_lt HF.out
  have hF2 := HP.out.kept F _ (by omega) (by simp [Value.ownBlock]) HF1.out
  have hN2 := HP.out.kept N _ (by omega) (by simp [Value.ownBlock]) HN1.out
  have hT2 := own_kept HT1.out (fun g x hg hx => HP.out.kept g x (fun e => own_ne HT1.out HX1.out (by simp) (by rw [hg, e])) (by simp [Value.ownBlock]) hx)
  have e1 : w2.cell? ⟨F, 1, none⟩ = some (.int .i64 used) := hb_at hF2 1 rfl
  have e2 := hb_free hF2 1
  obtain ⟨g, hg, hgl⟩ : ∃ g, bv.ownBlock = some g ∧ w1.heap.size ≤ g := by
    rcases hbv with h | h
    · obtain ⟨g, cp, hv, _⟩ := hB2.form (by omega)
      rw [hv] at h
      cases h
    · exact h
  have h5 : w.heap.size + 1 ≤ w1.heap.size := by have h := Hw1.out.size; simp at h; exact h
  have h6 := HP.out.size
  have HX2 := Lib.hid hX2
  have HB2 := Lib.hid hB2
  have HF2 := Lib.hid hF2
  have HN2 := Lib.hid hN2
  have HT2 := Lib.hid hT2
  have Hg := Lib.hid hg
  clear hX2 hB2 hF2 hN2 hT2 hg
  go_wp2
  go_ret
  have e3 : ((used : Int) + ((k : Int) + 511) / 512) = ((used + (news.length + 511) / 512 : Nat) : Int) := by rw [← Hk.out]; omega
  have h7 : w2.heap.size ≤ (w2.setCell ⟨F, 1, none⟩ (.int .i64 (used + (k + 511) / 512))).heap.size := (grown_set _ _ _).size
  refine ⟨rfl, ⟨w.heap.size, bv, tv1, g, ?_, ?_, ?_, ?_, ?_, Nat.le_refl _, Hg.out, by omega⟩, by omega, ⟨HP.out.rest.1.trans Hw1.out.rest.1, HP.out.rest.2.1.trans Hw1.out.rest.2.1, HP.out.rest.2.2.trans Hw1.out.rest.2.2⟩, ?_⟩
  · rw [← e3]
    exact hb_set_same HF2.out 1 _
  · exact HT2.out.kept (grown_set _ _ _) (.inr fun e => own_ne HT2.out HF2.out (by simp) e.symm)
  · exact hb_set_other HN2.out _ (fun e => by have h1 := HN2.out; have h2 := HF2.out; rw [e, h2] at h1; cases h1)
  · exact hb_set_other HX2.out _ (by simp; omega)
  · rw [← Hk.out]
    have h := HB2.out
    rw [Nat.zero_add, List.nil_append] at h
    exact h.kept (grown_set _ _ _) (.inr fun e => own_ne h HF2.out (by simp) e.symm)
  · intro j x hjN hjF hjT h
    have hl := hb_lt h
    exact hb_set_other (HP.out.kept j x (by omega) (by simp [Value.ownBlock]) (Hw1.out.kept j x hjN hjF hjT (hb_alloc (hb_drewN h _) _))) _ hjF
end Go.Proofs.Ytmfphnhdahaooaa
/- Look-ups by names in maps that grow; bytes put at the end of a file that has some, or none, also no byte at all. -/
namespace Go.Proofs.Ytmfphnhdahaooaa
open Go.RowKit Go.Maps

def Finds (es : Array MapEntry) (s : ByteArray) (r : Option (Nat × Value)) : Prop := Instr.findNow .string (.string s) es.toList 0 = some r

theorem Finds.run {es : Array MapEntry} {s : ByteArray} {r : Option (Nat × Value)} (h : Finds es s r) (w : World) : (Instr.findKey 9 (.string s) es.toList).run Try.prog w = .ok r w :=
  MapKept.run_findKey Try.underlying9 h

theorem beq_yes (a : ByteArray) : (a == a) = true := (MapKept.bytes_beq a a).2 rfl
theorem beq_no {a b : ByteArray} (h : a ≠ b) : (a == b) = false := by
  cases e : a == b
  · rfl
  · exact absurd ((MapKept.bytes_beq a b).1 e) h

theorem findNow_snoc (s s' : ByteArray) (v : Value) (c : Nat) : ∀ (l : List MapEntry) (i : Nat) (r : Option (Nat × Value)), Instr.findNow .string (.string s) l i = some r →
    Instr.findNow .string (.string s) (l ++ [⟨.string s', v, c⟩]) i = some (match r with | some p => some p | none => if s = s' then some (i + l.length, v) else none)
  | [], i, r, h => by
    obtain rfl : r = none := by simpa [Instr.findNow] using h.symm
    by_cases e : s = s'
    · subst e
      simp [Instr.findNow, Instr.sameNow, beq_yes]
    · simp [Instr.findNow, Instr.sameNow, beq_no e, e]
  | x :: l, i, r, h => by
    simp only [Instr.findNow, List.cons_append] at h ⊢
    split at h
    · simp at h
      subst h
      rfl
    · rw [findNow_snoc s s' v c l (i + 1) r h]
      cases r with
      | some p => rfl
      | none =>
        by_cases e : s = s'
        · simp only [e, if_true, List.length_cons]
          congr 3
          omega
        · simp [e]
    · cases h

theorem Finds.push_same {es : Array MapEntry} {s : ByteArray} (h : Finds es s none) (v : Value) (c : Nat) : Finds (es.push ⟨.string s, v, c⟩) s (some (es.size, v)) := by
  have := findNow_snoc s s v c es.toList 0 none h
  unfold Finds
  rw [Array.toList_push, this]
  simp
theorem Finds.push_other {es : Array MapEntry} {s s' : ByteArray} {r : Option (Nat × Value)} (h : Finds es s r) (hne : s ≠ s') (v : Value) (c : Nat) : Finds (es.push ⟨.string s', v, c⟩) s r := by
  have := findNow_snoc s s' v c es.toList 0 r h
  unfold Finds
  rw [Array.toList_push, this]
  cases r <;> simp [hne]

theorem run_append_zero {P : Program} {w : World} (t ty e : TypeId) (i : TypeInfo) (ht : P.underlying t = some (.slice e)) (hi : P.info? e = some i) (ao : Option Addr) (n cap : Nat) (hnc : n ≤ cap) (a : Addr) (c : Nat) :
    (Builtin.append_ #[t, t] ty #[.slice ao n cap, .slice (some a) 0 c]).run P w = .ok (.slice ao n cap) w := by
  cases ao <;> simp [Builtin.append_, run_underlying ht, sizeOf, typeInfo, hi, Builtin.lenOf, Builtin.firstCells, hnc, storeCells, loadCells, loadCellsFrom]

theorem step_append_zero {P : Program} {ops : Array Oper} {o : Oper} {a : Act} {w : World} {K : Act → World → Prop} {Q : Exit → Act → World → Prop} {E : Prop}
    (hg : o.guard = none) (s x : Operand) (t : TypeId) (hop : o.op = Op.call { callee := Callee.builtin Builtin.append, args := #[s, x], argTypes := #[t, t] })
    (e : TypeId) (i : TypeInfo) (h1 : P.underlying t = some (.slice e)) (h2 : P.info? e = some i) (ao : Option Addr) (n cap : Nat) (hnc : n ≤ cap) (hs : a.eval s = .slice ao n cap) (ad : Addr) (c : Nat) (hx : a.eval x = .slice (some ad) 0 c)
    (hK : K (a.put o.dst (.slice ao n cap)) w) : if Region.wanted o (yielded ops a.tmps) = true then Oper.wp P o a w K Q else E := by
  have hw : Region.wanted o (yielded ops a.tmps) = true := by simp [Region.wanted, hg]
  rw [if_pos hw]
  have hrun := run_append_zero (P := P) (w := w) t o.type e i h1 h2 ao n cap hnc ad c
  unfold Oper.wp
  simp [execOp, hop, resolve, invoke, builtin, hs, hx, hrun, Result.andThen]
  exact hK

theorem put_same {X m : Nat} {bv bv2 lv : Value} {xs : List Value} {w : World} (hX : w.heap[X]? = some (.cells #[bv, lv] 85 (0, 0))) (hB : w.ownsRow 0 5 1 bv m xs) (he : bv2 = bv) : PutEnd X bv lv m 0 xs [] w (w.setCell ⟨X, 0, none⟩ bv2).drew := by
  subst he
  have e : w.setCell ⟨X, 0, none⟩ bv2 = w := setCell_id (hb_at hX 0 rfl)
  rw [e]
  exact ⟨⟨bv2, hX, by rw [List.append_nil]; exact hB, .inl rfl⟩, Nat.le_refl _, ⟨rfl, rfl, rfl⟩, fun j x _ _ h => h⟩

set_option maxRecDepth 100000 in
set_option maxHeartbeats 1000000 in
theorem put_some (X B cb S c m k : Nat) (lv : Value) (xs news : List Value) (w : World) (hX : w.heap[X]? = some (.cells #[.slice (some ⟨B, 0, none⟩) m cb, lv] 85 (0, 0))) (hB : w.ownsRow 0 5 1 (.slice (some ⟨B, 0, none⟩) m cb) m xs) (hm0 : 0 < m) (hm : m ≤ 1000000) (hmc : m ≤ cb)
    (hk : 0 < k) (hkc : k ≤ c) (hkm : k ≤ 1000000) (hnl : news.length = k) (hnews : ∀ j u, news[j]? = some u → w.cell? ((⟨S, 0, none⟩ : Addr).add j) = some u) (hone : ∀ u ∈ news, u.oneCell' = true) :
    Calls Try.prog 59 #[.pointer (some ⟨X, 0, none⟩), .int .i64 m, .slice (some ⟨S, 0, none⟩) k c] w fun e w' => e = .returned (.tuple #[]) ∧ PutEnd X (.slice (some ⟨B, 0, none⟩) m cb) lv m k xs news w w' := by
  have c0 : w.cell? ⟨X, 0, none⟩ = some (.slice (some ⟨B, 0, none⟩) m cb) := hb_at hX 0 rfl
  have f0 := hb_free hX 0
  have hneB : some X ≠ (Value.slice (some ⟨B, 0, none⟩) m cb).ownBlock := own_ne hB hX (by simp)
  obtain ⟨i0, hi, hz0, hz1, hz2⟩ := info_parts info5
  have HN := Lib.hid hnews
  have HO := Lib.hid hone
  have HL := Lib.hid hnl
  have HX := Lib.hid hX
  have HB := Lib.hid hB
  have HE := Lib.hid hneB
  clear hnews hone hnl hX hB hneB
  go_enter Try.func59, Try.ntmps59
  go_wp2_with (refine wpList_copy_nothing (o := ⟨some 14, _, _, _, _, _⟩) rfl (.tmp 12) (.tmp 13) 45 45 rfl 5 Try.underlying45 size5 _ (some ⟨S, 0, none⟩) 0 _ k c rfl rfl (Nat.min_zero _) ?_)
  all_goals (go_region_law (refine step_append_lies _ rfl (.tmp 19) (.tmp 22) 45 rfl 0 5 i0 _ 1 1 Try.underlying45 hi hz0 hz1 hz2 rfl (by decide) _ m xs (by simp [Act.eval, Act.put] <;> omega) (own_drewN HB.out 1) ⟨S, 0, none⟩ k c news (by simp [Act.eval, Act.put]) (by rw [HL.out]; omega) HN.out HO.out hk (by unfold maxLen; omega) (by omega) (Nat.zero_le _) _ rfl ?_; intro g cap' w2 hown2 hg2 hat2 hlt2; have hX2 := hb_grown (w := w.drew) HX.out hg2 HE.out; have c02 : w2.cell? ⟨X, 0, none⟩ = some (.slice (some ⟨B, 0, none⟩) m cb) := hb_at hX2 0 rfl; have f02 := hb_free hX2 0))
  all_goals
    go_wp2_with fail
    go_end0
    have e1 := hg2.size
    have e2 := (grown_set w2 ⟨X, 0, none⟩ (.slice (some ⟨g, 0, none⟩) (m + k) cap')).size
    exact ⟨rfl, ⟨_, hb_set_same hX2 0 _, hown2.kept (grown_set _ _ _) (.inr fun e => own_ne hown2 hX2 (by simp) e.symm), hat2.elim (fun h => .inl h.symm) (fun h => .inr ⟨g, rfl, Nat.le_of_eq h.symm⟩)⟩,
      Nat.le_trans e1 e2, ⟨hg2.os, hg2.tape, hg2.output⟩, fun j x hj hjb h => hb_set_other (hb_grown (w := w.drew) h hg2 hjb) _ hj⟩

set_option maxRecDepth 100000 in
set_option maxHeartbeats 1000000 in
theorem put_zero_nil (X S c : Nat) (lv : Value) (xs : List Value) (w : World) (hX : w.heap[X]? = some (.cells #[.slice none 0 0, lv] 85 (0, 0))) (hB : w.ownsRow 0 5 1 (.slice none 0 0) 0 xs) :
    Calls Try.prog 59 #[.pointer (some ⟨X, 0, none⟩), .int .i64 0, .slice (some ⟨S, 0, none⟩) 0 c] w fun e w' => e = .returned (.tuple #[]) ∧ PutEnd X (.slice none 0 0) lv 0 0 xs [] w w' := by
  have c0 : w.cell? ⟨X, 0, none⟩ = some (.slice none 0 0) := hb_at hX 0 rfl
  have f0 := hb_free hX 0
  obtain ⟨i0, hi, hz0, hz1, hz2⟩ := info_parts info5
  have HX := Lib.hid hX
  have HB := Lib.hid hB
  clear hX hB
  go_enter Try.func59, Try.ntmps59
  go_wp2_with (refine wpList_copy_nothing (o := ⟨some 14, _, _, _, _, _⟩) rfl (.tmp 12) (.tmp 13) 45 45 rfl 5 Try.underlying45 size5 _ (some ⟨S, 0, none⟩) 0 _ 0 c rfl rfl (Nat.min_zero _) ?_)
  all_goals (go_region_law (refine step_append_zero rfl (.tmp 19) (.tmp 22) 45 rfl 5 i0 Try.underlying45 hi none 0 0 (by omega) (by simp [Act.eval, Act.put] <;> omega) ⟨S, 0, none⟩ c (by simp [Act.eval, Act.put] <;> omega) ?_))
  all_goals
    go_wp2_with fail
    go_end0
    exact ⟨rfl, put_same HX.out HB.out (by first | rfl | (simp; omega))⟩

set_option maxRecDepth 100000 in
set_option maxHeartbeats 1000000 in
theorem put_zero_some (X B cb m S c : Nat) (lv : Value) (xs : List Value) (w : World) (hX : w.heap[X]? = some (.cells #[.slice (some ⟨B, 0, none⟩) m cb, lv] 85 (0, 0))) (hB : w.ownsRow 0 5 1 (.slice (some ⟨B, 0, none⟩) m cb) m xs) (hm : m ≤ 1000000) (hmc : m ≤ cb) :
    Calls Try.prog 59 #[.pointer (some ⟨X, 0, none⟩), .int .i64 m, .slice (some ⟨S, 0, none⟩) 0 c] w fun e w' => e = .returned (.tuple #[]) ∧ PutEnd X (.slice (some ⟨B, 0, none⟩) m cb) lv m 0 xs [] w w' := by
  have c0 : w.cell? ⟨X, 0, none⟩ = some (.slice (some ⟨B, 0, none⟩) m cb) := hb_at hX 0 rfl
  have f0 := hb_free hX 0
  obtain ⟨i0, hi, hz0, hz1, hz2⟩ := info_parts info5
  have HX := Lib.hid hX
  have HB := Lib.hid hB
  clear hX hB
  go_enter Try.func59, Try.ntmps59
  go_wp2_with (refine wpList_copy_nothing (o := ⟨some 14, _, _, _, _, _⟩) rfl (.tmp 12) (.tmp 13) 45 45 rfl 5 Try.underlying45 size5 _ (some ⟨S, 0, none⟩) 0 _ 0 c rfl rfl (Nat.min_zero _) ?_)
  all_goals (go_region_law (refine step_append_zero rfl (.tmp 19) (.tmp 22) 45 rfl 5 i0 Try.underlying45 hi (some ⟨B, 0, none⟩) m cb (by omega) (by simp [Act.eval, Act.put] <;> omega) ⟨S, 0, none⟩ c (by simp [Act.eval, Act.put] <;> omega) ?_))
  all_goals
    go_wp2_with fail
    go_end0
    exact ⟨rfl, put_same HX.out HB.out (by first | rfl | (simp; omega))⟩

end Go.Proofs.Ytmfphnhdahaooaa
