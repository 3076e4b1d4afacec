/- Texts in a row: Cn Ub Yc. -/
import Derived.Test.YtncebhddcokkoaaDoorZU12
import Derived.Test.YtncebhddcokkoaaDoorZU10
import Derived.Laws.MakeOwn
import Derived.Test.YtncebhddcokkoaaDoorZU9
import Derived.Test.YtncebhddcokkoaaDoorZU8
import Derived.Deep.QuietTactic
import Derived.BigQuiet
import Derived.Deep.DeepCutAuto
import Derived.Outline
/- Canon of any type. -/
namespace Go.Proofs.YtncebhddcokkoaaDoor
open Go.RowKit
set_option linter.unusedSimpArgs false
set_option linter.unusedVariables false
theorem info24z : (Tryd.prog.info? 36).map (fun i => (i.zero, i.size, i.bytes)) = some (some zT, 5, 72) := by kernel_rfl
/-- What is put for so many names. -/
def nmT (n : Nat) : List Tm := (List.range n).map fun i => vT (nmB i)
/-- A type whose variables are named in the order in which they are met. -/
def canonT (d : Nat) (t : Tm) : Tm := sub (byOf (fg (varsT d [] t) (varsT d [] t).length) (nmT (varsT d [] t).length)) d t
/-- The cells of the names' terms, the first j of them made. -/
def cellJ (j i : Nat) : Nat → Value
  | 0 => .int .i64 (if i < j then 1 else 0)
  | 1 => .string ⟨#[]⟩
  | 2 => .string (if i < j then nmB i else ⟨#[]⟩)
  | 3 => .int .i64 0
  | _ => .slice none 0 0
def byA (n j : Nat) : Array Value := (Array.range (n * 5)).map fun k => cellJ j (k / 5) (k % 5)
theorem byA_at (n j i r : Nat) (hi : i < n) (hr : r < 5) : (byA n j)[i * 5 + r]? = some (cellJ j i r) := by
  unfold byA
  have h1 : i * 5 + r < n * 5 := by omega
  rw [Array.getElem?_map, Array.getElem?_range, if_pos h1]
  simp only [Option.map_some]
  congr 2
  · omega
  · omega
theorem byA_made (n : Nat) : madeCells zT.cells (n * 5) = byA n 0 := by
  unfold madeCells byA
  congr 1
  funext k
  have h1 : k % zT.cells.size = k % 5 := rfl
  rw [h1]
  have h2 : k % 5 = 0 ∨ k % 5 = 1 ∨ k % 5 = 2 ∨ k % 5 = 3 ∨ k % 5 = 4 := by omega
  rcases h2 with h | h | h | h | h <;> rw [h] <;> rfl
theorem makeM (m : Nat) (hm : m ≤ 2600) (W : World) : (Instr.makeSlice 34 (.int .i64 (m : Int)) (.int .i64 (m : Int))).run Tryd.prog W = .ok (.slice (some ⟨W.heap.size, 0, none⟩) m m) (W.alloc (.cells (byA m 0) 36)) := by
  obtain ⟨i0, hi, hz0, hz1, hz2⟩ := info_parts info24z
  have h := run_makeSlice (P := Tryd.prog) (w := W) 34 36 i0 zT Tryd.underlying34 hi hz0 .i64 .i64 m m (by omega) (by omega) (by rw [hz1]; simp; omega) (by rw [hz2]; omega) (by omega)
  rw [hz1, Int.toNat_natCast, byA_made] at h
  exact h
end Go.Proofs.YtncebhddcokkoaaDoor
/- What Few tells of a term that it lets through. -/
namespace Go.Proofs.YtncebhddcokkoaaDoor
open Go.RowKit
def mn (s : ByteArray) : Nat := if 100000 < s.size then 100000 else s.size
theorem mn_le (s : ByteArray) : mn s ≤ 100000 := by unfold mn; split <;> omega
theorem mn_if (s : ByteArray) : (if (100000 : Int) < (s.size : Int) then (100000 : Int) else (s.size : Int)) = ((mn s : Nat) : Int) := by
  unfold mn
  by_cases h : 100000 < s.size
  · rw [if_pos h, if_pos (by omega)]; rfl
  · rw [if_neg h, if_neg (by omega)]
def SomeW (d : Nat) (t : Tm) (w : World) (e : Ending) (w' : World) : Prop := ∃ n : Int, e = .returned (.int .i64 n) ∧ 0 ≤ n ∧ n ≤ 100000 ∧ (n ≤ 600 → Sm d t ∧ ((tszN d t : Nat) : Int) ≤ n) ∧ Below w.heap.size w w'
set_option maxRecDepth 100000 in
set_option maxHeartbeats 2000000 in
theorem weight2_any (d : Nat) : ∀ (va : Value) (ta : Tm) (deep : Int) (w : World), IsT w d va ta → Calls Tryd.prog 71 #[va, .int .i64 deep] w (SomeW d ta w) := by
  induction d with
  | zero => intro va ta deep w h; cases h
  | succ d ih =>
    intro va ta deep w ha
    obtain ⟨d1, k1, p1, n1, N1, s1, l1, e1, rfl, rfl, hp1, hn1, hk1⟩ := ha.open
    obtain rfl : d = d1 := by omega
    obtain ⟨q1, c1, hs1, hm1, hr1⟩ := hk1
    subst hs1
    have HR1 := Lib.hid hr1
    clear ha e1 hr1
    unfold maxLen at hm1 hp1 hn1
    have HIH := Lib.hid ih
    clear ih
    by_cases hd : 90 < deep
    · go_enter Tryd.func71, Tryd.ntmps71
      go_wp2
      go_ret
      exact ⟨_, rfl, by decide, by decide, fun h => by omega, below_alloc w _⟩
    by_cases hl : (300 : Int) < (l1.length : Int)
    · go_enter Tryd.func71, Tryd.ntmps71
      go_wp2
      go_ret
      exact ⟨_, rfl, by decide, by decide, fun h => by omega, below_alloc w _⟩
    have hd' : deep ≤ 90 := by omega
    have hl' : (l1.length : Int) ≤ 300 := by omega
    have hd2 : decide (90 < deep) = false := by simpa using hd'
    have hl2 : decide ((300 : Int) < (l1.length : Int)) = false := by simpa using hl'
    clear hd hl
    have q1m := mn_if p1
    have q2m := mn_if n1
    have q1l := mn_le p1
    have q2l := mn_le n1
    generalize mn p1 = u1 at *
    generalize mn n1 = u2 at *
    have hnew := Lib.hid (hb_new w (.cells #[.int .i64 k1, .string p1, .string n1, .int .i64 N1, .slice q1 l1.length c1] 36))
    go_enter Tryd.func71, Tryd.ntmps71
    go_upto_region 3 with (fail)
    generalize hW1 : w.alloc (.cells #[.int .i64 k1, .string p1, .string n1, .int .i64 N1, .slice q1 l1.length c1] 36) = W1 at *
    have hBW : Below w.heap.size w W1 := by rw [← hW1]; exact below_alloc w _
    have HBW := Lib.hid hBW
    have hzw : w.heap.size + 1 ≤ W1.heap.size := by rw [← hW1]; simp
    have m1 := hb_at hnew.out 1 rfl
    have m2 := hb_at hnew.out 2 rfl
    have m4 := hb_at hnew.out 4 rfl
    clear hW1 hBW
    go_cut [5] (fun v wx => (∃ m : Int, v = .int .i64 m ∧ 1 ≤ m ∧ m ≤ 20000) ∧ wx = W1)
    case first =>
      go_wp2_with fail
      all_goals
        go_meet
        exact ⟨⟨_, rfl, by omega, by omega⟩, rfl⟩
    case rest =>
      obtain ⟨⟨m0, rfl, hm0, hm0'⟩, rfl⟩ := hcut
      go_wp2
      have M4 : RowKit.Hid (wc.cell? ⟨w.heap.size, 4, none⟩ = some (.slice q1 l1.length c1)) := Lib.hid m4
      clear m1 m2 m4
      go_loopw [5, 29] (fun n i wr => ∃ k : Nat, k ≤ l1.length ∧ i = .int .i64 k ∧ (∃ m : Int, n = .int .i64 m ∧ 1 ≤ m ∧ m ≤ 200000 ∧ (m ≤ 600 → (∀ x ∈ l1.take k, Sm d x) ∧ (((l1.take k).foldl (fun n t => n + tszN d t) 1 : Nat) : Int) ≤ m)) ∧ Below wc.heap.size wc wr) (fun _ i _ => l1.length - (intOf i).toNat)
      case atStart => exact ⟨0, Nat.zero_le _, rfl, ⟨_, rfl, hm0, by omega, fun _ => ⟨fun x hx => by simp at hx, by show ((1 : Nat) : Int) ≤ m0; omega⟩⟩, Below.refl _ _⟩
      case round =>
        obtain ⟨k, hk, rfl, ⟨m, rfl, hm1', hm2', hmI⟩, hB⟩ := hrel
        have HMI := Lib.hid hmI
        clear hmI
        have hzr := hB.size
        have HB := Lib.hid hB
        by_cases hlt : k < l1.length
        · have hx1 := List.getElem?_eq_getElem hlt
          have htk := List.take_succ_eq_append_getElem hlt
          have HTK := Lib.hid htk
          clear htk
          generalize l1[k] = x at *
          obtain ⟨b1, o1, k1', p1', n1', N1', s1', hq1, ha1, ht1⟩ := HR1.out k x hx1
          subst hq1
          have hBR : Below w.heap.size w wr := HBW.out.trans (hB.mono (by omega))
          obtain ⟨x0, x1, x2, x3, x4⟩ := ha1.below hBR ha1.lt
          have m4 : wr.cell? ⟨w.heap.size, 4, none⟩ = some (.slice (some ⟨b1, o1, none⟩) l1.length c1) := (hB.cell (p := ⟨w.heap.size, 4, none⟩) (by simp; omega)).trans M4.out
          have HC : RowKit.Hid (∀ deep, Calls Tryd.prog 71 #[tv k1' p1' n1' N1' s1', .int .i64 deep] wr (SomeW d x wr)) :=
            Lib.hid fun deep => HIH.out _ _ deep wr (ht1.below hBR)
          clear hx1 ht1 ha1 hB hBR
          by_cases hm : m < 100000
          · go_wp2_with (go_at_call 71; ((with_reducible refine (HC.out _).mono ?_); rintro e w3 ⟨m3, rfl, hg1, hg2, hg3, hb⟩; have HG := Lib.hid hg3; clear hg3))
            have HQ := Lib.hid (HB.out.trans (hb.mono hzr))
            go_roundw
            case rel =>
              refine ⟨k + 1, by omega, by go_num, ⟨m + m3, by go_num, by omega, by omega, fun h6 => ?_⟩, HQ.out⟩
              obtain ⟨i1, i2⟩ := HMI.out (by omega)
              obtain ⟨j1, j2⟩ := HG.out (by omega)
              rw [HTK.out]
              refine ⟨fun y hy => ?_, by rw [List.foldl_append]; simp only [List.foldl_cons, List.foldl_nil]; omega⟩
              rcases List.mem_append.1 hy with hy | hy
              · exact i1 y hy
              · obtain rfl := List.mem_singleton.1 hy; exact j1
            case measure => simp [intOf]; omega
          · go_wp2
            go_roundw
            case rel => exact ⟨k + 1, by omega, by go_num, ⟨m, rfl, by omega, by omega, fun h6 => by omega⟩, HB.out⟩
            case measure => simp [intOf]; omega
        · obtain rfl : k = l1.length := by omega
          rw [List.take_length] at HMI
          go_wp2
          all_goals
            go_ret
            refine ⟨_, rfl, by omega, by omega, fun h6 => ?_, HBW.out.trans (HB.out.mono (by omega))⟩
            obtain ⟨i1, i2⟩ := HMI.out (by omega)
            exact ⟨⟨by omega, i1⟩, by show ((l1.foldl (fun n t => n + tszN d t) 1 : Nat) : Int) ≤ _; omega⟩
def SomeF (d : Nat) (t : Tm) (w : World) (e : Ending) (w' : World) : Prop := ∃ r : Bool, e = .returned (.bool r) ∧ (r = true → Sm d t ∧ tszN d t ≤ 600) ∧ Below w.heap.size w w'
set_option maxRecDepth 100000 in
theorem few2_any (d : Nat) (va : Value) (ta : Tm) (w : World) (h : IsT w d va ta) : Calls Tryd.prog 44 #[va] w (SomeF d ta w) := by
  have HT := Lib.hid h
  obtain ⟨d1, k1, p1, n1, N1, s1, l1, e1, rfl, e2, _, _, _⟩ := h.open
  subst e2
  clear h e1
  have HC := Lib.hid (weight2_any d _ _ 0 _ (HT.out.below (below_alloc w (.cells #[.int .i64 k1, .string p1, .string n1, .int .i64 N1, s1] 36))))
  go_enter Tryd.func44, Tryd.ntmps44
  go_wp2_with (go_at_call 71; ((with_reducible refine HC.out.mono ?_); rintro e w3 ⟨m3, rfl, g1, g2, g3, hb⟩; have HG := Lib.hid g3; clear g3))
  go_ret
  refine ⟨_, rfl, fun hr => ?_, (below_alloc w _).trans (hb.mono (by simp))⟩
  have h6 : m3 ≤ 600 := by simpa using hr
  obtain ⟨i1, i2⟩ := HG.out h6
  exact ⟨i1, by omega⟩
end Go.Proofs.YtncebhddcokkoaaDoor
/- Above, and Same, of the program. -/
namespace Go.Proofs.YtncebhddcokkoaaDoor
open Go.RowKit
/-- May Match go through these two? -/
structure Two (w : World) (d : Nat) (va vb : Value) (ta tb : Tm) : Prop where
  a : IsT w d va ta
  b : IsT w d vb tb
  sa : Sm d ta
  sb : Sm d tb
  za : tszN d ta ≤ 30000
  zb : tszN d tb ≤ 30000
theorem Two.below {w w' : World} {d : Nat} {va vb : Value} {ta tb : Tm} (h : Two w d va vb ta tb) (hb : Below w.heap.size w w') : Two w' d va vb ta tb := ⟨h.a.below hb, h.b.below hb, h.sa, h.sb, h.za, h.zb⟩
theorem Two.turn {w : World} {d : Nat} {va vb : Value} {ta tb : Tm} (h : Two w d va vb ta tb) : Two w d vb va tb ta := ⟨h.b, h.a, h.sb, h.sa, h.zb, h.za⟩
theorem Two.shape {w : World} {d : Nat} {va vb : Value} {ta tb : Tm} (h : Two w d va vb ta tb) : ∃ k1 p1 n1 N1 q1 l1 c1 k2 p2 n2 N2 q2 l2 c2, va = tv k1 p1 n1 N1 (.slice q1 l1 c1) ∧ vb = tv k2 p2 n2 N2 (.slice q2 l2 c2) := by
  obtain ⟨_, k1, p1, n1, N1, _, l1, _, _, rfl, _, _, q1, c1, rfl, _, _⟩ := h.a.open
  obtain ⟨_, k2, p2, n2, N2, _, l2, _, _, rfl, _, _, q2, c2, rfl, _, _⟩ := h.b.open
  exact ⟨_, _, _, _, _, _, _, _, _, _, _, _, _, _, rfl, rfl⟩
/-- What Same says. -/
def SameM (ta tb : Tm) (r : Bool) : Prop := ∃ r1, Mt [(ta, tb)] (fun _ => none) r1 ∧ (r1 = false → r = false) ∧ (r1 = true → Mt [(tb, ta)] (fun _ => none) r)
theorem SameM.parts {k : Int} {p n e : ByteArray} {la lb : List Tm} {r r' : Bool} (hk : k ≠ 1) (h : SameM (.mk k p n 0 la) (.mk k p n 0 lb) r) (h' : SameM (.mk 4 e e 0 la) (.mk 4 e e 0 lb) r') : r = r' := by
  obtain ⟨r1, h1, h2, h3⟩ := h
  obtain ⟨r2, h4, h5, h6⟩ := h'
  obtain rfl := h1.parts hk h4
  cases r1 with
  | false => rw [h2 rfl, h5 rfl]
  | true => exact (h3 rfl).parts hk (h6 rfl)
end Go.Proofs.YtncebhddcokkoaaDoor
