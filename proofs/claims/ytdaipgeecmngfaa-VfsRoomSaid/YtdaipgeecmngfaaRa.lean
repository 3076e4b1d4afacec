/- Look-ups by names in maps that grow; bytes put at the end of a file that has some, or none, also no byte at all. -/
import Derived.Test.YtdaipgeecmngfaaVg
namespace Go.Proofs.Ytdaipgeecmngfaa
open Go.RowKit Go.Maps

def Finds (es : Array MapEntry) (s : ByteArray) (r : Option (Nat × Value)) : Prop := Instr.findNow .string (.string s) es.toList 0 = some r

theorem Finds.run {es : Array MapEntry} {s : ByteArray} {r : Option (Nat × Value)} (h : Finds es s r) (w : World) : (Instr.findKey 9 (.string s) es.toList).run Try.prog w = .ok r w :=
  MapKept.run_findKey Try.underlying9 h

theorem beq_yes (a : ByteArray) : (a == a) = true := (MapKept.bytes_beq a a).2 rfl
theorem beq_no {a b : ByteArray} (h : a ≠ b) : (a == b) = false := by
  cases e : a == b
  · rfl
  · exact absurd ((MapKept.bytes_beq a b).1 e) h

theorem findNow_snoc (s s' : ByteArray) (v : Value) (c : Nat) : ∀ (l : List MapEntry) (i : Nat) (r : Option (Nat × Value)), Instr.findNow .string (.string s) l i = some r →
    Instr.findNow .string (.string s) (l ++ [⟨.string s', v, c⟩]) i = some (match r with | some p => some p | none => if s = s' then some (i + l.length, v) else none)
  | [], i, r, h => by
    obtain rfl : r = none := by simpa [Instr.findNow] using h.symm
    by_cases e : s = s'
    · subst e
      simp [Instr.findNow, Instr.sameNow, beq_yes]
    · simp [Instr.findNow, Instr.sameNow, beq_no e, e]
  | x :: l, i, r, h => by
    simp only [Instr.findNow, List.cons_append] at h ⊢
    split at h
    · simp at h
      subst h
      rfl
    · rw [findNow_snoc s s' v c l (i + 1) r h]
      cases r with
      | some p => rfl
      | none =>
        by_cases e : s = s'
        · simp only [e, if_true, List.length_cons]
          congr 3
          omega
        · simp [e]
    · cases h

theorem Finds.push_same {es : Array MapEntry} {s : ByteArray} (h : Finds es s none) (v : Value) (c : Nat) : Finds (es.push ⟨.string s, v, c⟩) s (some (es.size, v)) := by
  have := findNow_snoc s s v c es.toList 0 none h
  unfold Finds
  rw [Array.toList_push, this]
  simp
theorem Finds.push_other {es : Array MapEntry} {s s' : ByteArray} {r : Option (Nat × Value)} (h : Finds es s r) (hne : s ≠ s') (v : Value) (c : Nat) : Finds (es.push ⟨.string s', v, c⟩) s r := by
  have := findNow_snoc s s' v c es.toList 0 r h
  unfold Finds
  rw [Array.toList_push, this]
  cases r <;> simp [hne]

theorem run_append_zero {P : Program} {w : World} (t ty e : TypeId) (i : TypeInfo) (ht : P.underlying t = some (.slice e)) (hi : P.info? e = some i) (ao : Option Addr) (n cap : Nat) (hnc : n ≤ cap) (a : Addr) (c : Nat) :
    (Builtin.append_ #[t, t] ty #[.slice ao n cap, .slice (some a) 0 c]).run P w = .ok (.slice ao n cap) w := by
  cases ao <;> simp [Builtin.append_, run_underlying ht, sizeOf, typeInfo, hi, Builtin.lenOf, Builtin.firstCells, hnc, storeCells, loadCells, loadCellsFrom]

theorem step_append_zero {P : Program} {ops : Array Oper} {o : Oper} {a : Act} {w : World} {K : Act → World → Prop} {Q : Exit → Act → World → Prop} {E : Prop}
    (hg : o.guard = none) (s x : Operand) (t : TypeId) (hop : o.op = Op.call { callee := Callee.builtin Builtin.append, args := #[s, x], argTypes := #[t, t] })
    (e : TypeId) (i : TypeInfo) (h1 : P.underlying t = some (.slice e)) (h2 : P.info? e = some i) (ao : Option Addr) (n cap : Nat) (hnc : n ≤ cap) (hs : a.eval s = .slice ao n cap) (ad : Addr) (c : Nat) (hx : a.eval x = .slice (some ad) 0 c)
    (hK : K (a.put o.dst (.slice ao n cap)) w) : if Region.wanted o (yielded ops a.tmps) = true then Oper.wp P o a w K Q else E := by
  have hw : Region.wanted o (yielded ops a.tmps) = true := by simp [Region.wanted, hg]
  rw [if_pos hw]
  have hrun := run_append_zero (P := P) (w := w) t o.type e i h1 h2 ao n cap hnc ad c
  unfold Oper.wp
  simp [execOp, hop, resolve, invoke, builtin, hs, hx, hrun, Result.andThen]
  exact hK

theorem put_same {X m : Nat} {bv bv2 lv : Value} {xs : List Value} {w : World} (hX : w.heap[X]? = some (.cells #[bv, lv] 85 (0, 0))) (hB : w.ownsRow 0 5 1 bv m xs) (he : bv2 = bv) : PutEnd X bv lv m 0 xs [] w (w.setCell ⟨X, 0, none⟩ bv2).drew := by
  subst he
  have e : w.setCell ⟨X, 0, none⟩ bv2 = w := setCell_id (hb_at hX 0 rfl)
  rw [e]
  exact ⟨⟨bv2, hX, by rw [List.append_nil]; exact hB, .inl rfl⟩, Nat.le_refl _, ⟨rfl, rfl, rfl⟩, fun j x _ _ h => h⟩

set_option maxRecDepth 100000 in
set_option maxHeartbeats 1000000 in
theorem put_some (X B cb S c m k : Nat) (lv : Value) (xs news : List Value) (w : World) (hX : w.heap[X]? = some (.cells #[.slice (some ⟨B, 0, none⟩) m cb, lv] 85 (0, 0))) (hB : w.ownsRow 0 5 1 (.slice (some ⟨B, 0, none⟩) m cb) m xs) (hm0 : 0 < m) (hm : m ≤ 1000000) (hmc : m ≤ cb)
    (hk : 0 < k) (hkc : k ≤ c) (hkm : k ≤ 1000000) (hnl : news.length = k) (hnews : ∀ j u, news[j]? = some u → w.cell? ((⟨S, 0, none⟩ : Addr).add j) = some u) (hone : ∀ u ∈ news, u.oneCell' = true) :
    Calls Try.prog 59 #[.pointer (some ⟨X, 0, none⟩), .int .i64 m, .slice (some ⟨S, 0, none⟩) k c] w fun e w' => e = .returned (.tuple #[]) ∧ PutEnd X (.slice (some ⟨B, 0, none⟩) m cb) lv m k xs news w w' := by
  have c0 : w.cell? ⟨X, 0, none⟩ = some (.slice (some ⟨B, 0, none⟩) m cb) := hb_at hX 0 rfl
  have f0 := hb_free hX 0
  have hneB : some X ≠ (Value.slice (some ⟨B, 0, none⟩) m cb).ownBlock := own_ne hB hX (by simp)
  obtain ⟨i0, hi, hz0, hz1, hz2⟩ := info_parts info5
  have HN := Lib.hid hnews
  have HO := Lib.hid hone
  have HL := Lib.hid hnl
  have HX := Lib.hid hX
  have HB := Lib.hid hB
  have HE := Lib.hid hneB
  clear hnews hone hnl hX hB hneB
  go_enter Try.func59, Try.ntmps59
  go_wp2_with (refine wpList_copy_nothing (o := ⟨some 14, _, _, _, _, _⟩) rfl (.tmp 12) (.tmp 13) 45 45 rfl 5 Try.underlying45 size5 _ (some ⟨S, 0, none⟩) 0 _ k c rfl rfl (Nat.min_zero _) ?_)
  all_goals (go_region_law (refine step_append_lies _ rfl (.tmp 19) (.tmp 22) 45 rfl 0 5 i0 _ 1 1 Try.underlying45 hi hz0 hz1 hz2 rfl (by decide) _ m xs (by simp [Act.eval, Act.put] <;> omega) (own_drewN HB.out 1) ⟨S, 0, none⟩ k c news (by simp [Act.eval, Act.put]) (by rw [HL.out]; omega) HN.out HO.out hk (by unfold maxLen; omega) (by omega) (Nat.zero_le _) _ rfl ?_; intro g cap' w2 hown2 hg2 hat2 hlt2; have hX2 := hb_grown (w := w.drew) HX.out hg2 HE.out; have c02 : w2.cell? ⟨X, 0, none⟩ = some (.slice (some ⟨B, 0, none⟩) m cb) := hb_at hX2 0 rfl; have f02 := hb_free hX2 0))
  all_goals
    go_wp2_with fail
    go_end0
    have e1 := hg2.size
    have e2 := (grown_set w2 ⟨X, 0, none⟩ (.slice (some ⟨g, 0, none⟩) (m + k) cap')).size
    exact ⟨rfl, ⟨_, hb_set_same hX2 0 _, hown2.kept (grown_set _ _ _) (.inr fun e => own_ne hown2 hX2 (by simp) e.symm), hat2.elim (fun h => .inl h.symm) (fun h => .inr ⟨g, rfl, Nat.le_of_eq h.symm⟩)⟩,
      Nat.le_trans e1 e2, ⟨hg2.os, hg2.tape, hg2.output⟩, fun j x hj hjb h => hb_set_other (hb_grown (w := w.drew) h hg2 hjb) _ hj⟩

set_option maxRecDepth 100000 in
set_option maxHeartbeats 1000000 in
theorem put_zero_nil (X S c : Nat) (lv : Value) (xs : List Value) (w : World) (hX : w.heap[X]? = some (.cells #[.slice none 0 0, lv] 85 (0, 0))) (hB : w.ownsRow 0 5 1 (.slice none 0 0) 0 xs) :
    Calls Try.prog 59 #[.pointer (some ⟨X, 0, none⟩), .int .i64 0, .slice (some ⟨S, 0, none⟩) 0 c] w fun e w' => e = .returned (.tuple #[]) ∧ PutEnd X (.slice none 0 0) lv 0 0 xs [] w w' := by
  have c0 : w.cell? ⟨X, 0, none⟩ = some (.slice none 0 0) := hb_at hX 0 rfl
  have f0 := hb_free hX 0
  obtain ⟨i0, hi, hz0, hz1, hz2⟩ := info_parts info5
  have HX := Lib.hid hX
  have HB := Lib.hid hB
  clear hX hB
  go_enter Try.func59, Try.ntmps59
  go_wp2_with (refine wpList_copy_nothing (o := ⟨some 14, _, _, _, _, _⟩) rfl (.tmp 12) (.tmp 13) 45 45 rfl 5 Try.underlying45 size5 _ (some ⟨S, 0, none⟩) 0 _ 0 c rfl rfl (Nat.min_zero _) ?_)
  all_goals (go_region_law (refine step_append_zero rfl (.tmp 19) (.tmp 22) 45 rfl 5 i0 Try.underlying45 hi none 0 0 (by omega) (by simp [Act.eval, Act.put] <;> omega) ⟨S, 0, none⟩ c (by simp [Act.eval, Act.put] <;> omega) ?_))
  all_goals
    go_wp2_with fail
    go_end0
    exact ⟨rfl, put_same HX.out HB.out (by first | rfl | (simp; omega))⟩

set_option maxRecDepth 100000 in
set_option maxHeartbeats 1000000 in
theorem put_zero_some (X B cb m S c : Nat) (lv : Value) (xs : List Value) (w : World) (hX : w.heap[X]? = some (.cells #[.slice (some ⟨B, 0, none⟩) m cb, lv] 85 (0, 0))) (hB : w.ownsRow 0 5 1 (.slice (some ⟨B, 0, none⟩) m cb) m xs) (hm : m ≤ 1000000) (hmc : m ≤ cb) :
    Calls Try.prog 59 #[.pointer (some ⟨X, 0, none⟩), .int .i64 m, .slice (some ⟨S, 0, none⟩) 0 c] w fun e w' => e = .returned (.tuple #[]) ∧ PutEnd X (.slice (some ⟨B, 0, none⟩) m cb) lv m 0 xs [] w w' := by
  have c0 : w.cell? ⟨X, 0, none⟩ = some (.slice (some ⟨B, 0, none⟩) m cb) := hb_at hX 0 rfl
  have f0 := hb_free hX 0
  obtain ⟨i0, hi, hz0, hz1, hz2⟩ := info_parts info5
  have HX := Lib.hid hX
  have HB := Lib.hid hB
  clear hX hB
  go_enter Try.func59, Try.ntmps59
  go_wp2_with (refine wpList_copy_nothing (o := ⟨some 14, _, _, _, _, _⟩) rfl (.tmp 12) (.tmp 13) 45 45 rfl 5 Try.underlying45 size5 _ (some ⟨S, 0, none⟩) 0 _ 0 c rfl rfl (Nat.min_zero _) ?_)
  all_goals (go_region_law (refine step_append_zero rfl (.tmp 19) (.tmp 22) 45 rfl 5 i0 Try.underlying45 hi (some ⟨B, 0, none⟩) m cb (by omega) (by simp [Act.eval, Act.put] <;> omega) ⟨S, 0, none⟩ c (by simp [Act.eval, Act.put] <;> omega) ?_))
  all_goals
    go_wp2_with fail
    go_end0
    exact ⟨rfl, put_same HX.out HB.out (by first | rfl | (simp; omega))⟩

end Go.Proofs.Ytdaipgeecmngfaa
