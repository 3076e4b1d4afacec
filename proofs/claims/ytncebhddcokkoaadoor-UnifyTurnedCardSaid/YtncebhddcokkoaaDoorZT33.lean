/- Texts in a row: Qj Qk Sb. -/
import Derived.Test.YtncebhddcokkoaaDoorZT32
import Derived.Test.YtncebhddcokkoaaDoorZT24
import Derived.Test.YtncebhddcokkoaaDoorZT26
import Derived.Test.YtncebhddcokkoaaDoorZT22
import Derived.Test.YtncebhddcokkoaaDoorZT30
/- The document's solver: Solve. -/
namespace Go.Proofs.YtncebhddcokkoaaDoor
open Go.RowKit
set_option linter.unusedSimpArgs false
set_option linter.unusedVariables false
theorem MadeV.app {base : Nat} {w wq : World} {d : Nat} {sv : Value} {L : List NT} {nm : ByteArray} {x : Tm} {g : Nat} {k N : Int} {p n : ByteArray} {q : Option Addr} {ln c : Nat} (h : MadeV base w d sv L) (hbase : base ≤ w.heap.size) (hb : Below w.heap.size w wq) (hnm : nm.size ≤ maxLen)
    (hx : IsX (fun b => w.heap.size ≤ b) wq d (tv k p n N (.slice q ln c)) x) (hg : wq.heap[g]? = some (.cells #[.string nm, .int .i64 k, .string p, .string n, .int .i64 N, .slice q ln c] 38 (0, 0))) (hL : L.length ≤ 100000) :
    ∃ v' w', (Builtin.append_ #[25, 25] 25 #[sv, .slice (some ⟨g, 0, none⟩) 1 1]).run Tryd.prog wq = .ok v' w' ∧ MadeV base w' d v' (L ++ [(nm, x)]) ∧ Below base wq w' := by
  obtain ⟨l, hl, ho, hd⟩ := h
  have hlt := ho.lt
  have hsz := hb.size
  obtain ⟨i, z, hi, hz, hs, hby, hzc⟩ := info38
  obtain ⟨v', w', r1, r2, r3, _, r5⟩ := run_append_own_at (P := Tryd.prog) (w := wq) base 25 25 38 i z 6 88 (by kernel_rfl) hi hz hs hby hzc (by decide) sv l.length (flatV l) (own_below ho hb) ⟨g, 0, none⟩ 1 1
    [.string nm, .int .i64 k, .string p, .string n, .int .i64 N, .slice q ln c] rfl
    (fun j u hu => by
      rw [add_zero_none, hb_cell hg]
      match j, hu with
      | 0, hu => exact hu
      | 1, hu => exact hu
      | 2, hu => exact hu
      | 3, hu => exact hu
      | 4, hu => exact hu
      | 5, hu => exact hu
      | j + 6, hu => simp at hu)
    (fun u hu => by
      simp only [List.mem_cons, List.not_mem_nil, or_false] at hu
      rcases hu with rfl | rfl | rfl | rfl | rfl | rfl <;> rfl)
    (by unfold maxLen; omega) (by omega) (by omega)
  exact ⟨v', w', r1, MadeV.next hl ho hd hb hnm (hx.move fun b hX hl2 => ⟨fun e => by have := hlt b e.symm; omega, rfl⟩) (fun _ _ => rfl) (Nat.le_refl _) r2 r3 r5, (Below.refl _ wq).grown r3 (by omega) (fun j hj => (hlt j hj).1)⟩
theorem IsX.leaf {X : Nat → Prop} {w : World} {d : Nat} {n : ByteArray} (hn : n.size ≤ maxLen) (hd : 1 ≤ d) : IsX X w d (tv 1 ⟨#[]⟩ n 0 (.slice none 0 0)) (vN n) := by
  obtain ⟨d, rfl⟩ : ∃ m, d = m + 1 := ⟨d - 1, by omega⟩
  exact ⟨none, 0, rfl, Nat.zero_le _, hn, Nat.zero_le _, fun i x hx => by simp at hx⟩
end Go.Proofs.YtncebhddcokkoaaDoor
/- UnifySolves: its walk. -/
namespace Go.Proofs.YtncebhddcokkoaaDoor
open Go.RowKit
set_option linter.unusedSimpArgs false
set_option linter.unusedVariables false
theorem VAt.more {w : World} {d d' : Nat} {v : Value} {L : List NT} (h : VAt w d v L) (hd : d ≤ d') : VAt w d' v L := by
  obtain ⟨q, c, e, hl, h⟩ := h
  refine ⟨q, c, e, hl, fun i x hx => ?_⟩
  obtain ⟨g, k, p, n, N, s, h1, h2, h3, h4, h5⟩ := h i x hx
  exact ⟨g, k, p, n, N, s, h1, h2, h3, h4, h5.more hd⟩
theorem EqAt.more {w : World} {d d' : Nat} {v : Value} {E : List (Tm × Tm)} (h : EqAt w d v E) (hd : d ≤ d') : EqAt w d' v E := by
  obtain ⟨q, c, e, h⟩ := h
  refine ⟨q, c, e, fun i x hx => ?_⟩
  obtain ⟨g, o, k, p, n, N, s, k', p', n', N', s', h1, ⟨h2, h3⟩, h4, h5⟩ := h i x hx
  exact ⟨g, o, k, p, n, N, s, k', p', n', N', s', h1, ⟨h2, h3.more hd⟩, h4, h5.more hd⟩
end Go.Proofs.YtncebhddcokkoaaDoor
/- UnifyTurned: its walk. -/
namespace Go.Proofs.YtncebhddcokkoaaDoor
open Go.RowKit
set_option linter.unusedSimpArgs false
set_option linter.unusedVariables false
theorem rem_n (z : Int) (n : Nat) (h0 : 0 < n) (h20 : n ≤ 20) (h1 : -9223372036854775808 ≤ z) (h2 : z ≤ 9223372036854775807) : ∃ K : Nat, K < n ∧ (RowKit.wrap64 (z.tmod (n : Int) + (n : Int))).tmod (n : Int) = (K : Int) := by
  have hn : (0 : Int) < (n : Int) := by omega
  have b1 := Int.lt_tmod_of_pos z (b := (n : Int)) hn
  have b2 := Int.tmod_lt_of_pos z (b := (n : Int)) hn
  have e : RowKit.wrap64 (z.tmod (n : Int) + (n : Int)) = z.tmod (n : Int) + (n : Int) := by unfold RowKit.wrap64; omega
  rw [e]
  have b3 := Int.tmod_nonneg (a := z.tmod (n : Int) + (n : Int)) (n : Int) (by omega)
  have b4 := Int.tmod_lt_of_pos (z.tmod (n : Int) + (n : Int)) (b := (n : Int)) hn
  exact ⟨_, by omega, (Int.toNat_of_nonneg b3).symm⟩
theorem EqO.frz {w wr : World} {E : List (Tm × Tm)} {d : Nat} {g n c : Nat} {ts : List TEq} (h : EqO w E d (.slice (some ⟨g, 0, none⟩) n c) ts wr) (o : Nat) : wr.frozen? ⟨g, o, none⟩ = false := by
  rcases h.row.2 with ⟨e, _⟩ | ⟨g', cap, cur, e, _, hb, _⟩
  · cases e
  · cases e; exact hb_free hb o
/-- The first ones turned. -/
def turnsTo (F : List (Tm × Tm)) (sw : Bool) (j : Nat) : List (Tm × Tm) := (F.take j).map (turnE sw) ++ F.drop j
theorem turnsTo_zero (F : List (Tm × Tm)) (sw : Bool) : turnsTo F sw 0 = F := by simp [turnsTo]
theorem turnsTo_all (F : List (Tm × Tm)) (sw : Bool) : turnsTo F sw F.length = F.map (turnE sw) := by simp [turnsTo]
theorem turnsTo_false (F : List (Tm × Tm)) (j : Nat) : turnsTo F false j = F := by
  have e : turnE false = id := by funext x; rfl
  simp [turnsTo, e]
theorem turnsTo_len (F : List (Tm × Tm)) (sw : Bool) (j : Nat) : (turnsTo F sw j).length = F.length := by simp [turnsTo]; omega
theorem turnsTo_at {F : List (Tm × Tm)} {sw : Bool} {j : Nat} (hj : j < F.length) : (turnsTo F sw j)[j]? = some F[j] := by
  unfold turnsTo
  rw [List.getElem?_append_right (by simp; omega)]
  simp [Nat.min_eq_left (Nat.le_of_lt hj)]
theorem turnsTo_next {F : List (Tm × Tm)} {sw : Bool} {j : Nat} (hj : j < F.length) : turnsTo F sw (j + 1) = (turnsTo F sw j).set j (turnE sw F[j]) := by
  unfold turnsTo
  rw [List.take_succ_eq_append_getElem hj, List.map_append, List.set_append_right _ _ (by simp; omega)]
  have e : j - ((F.take j).map (turnE sw)).length = 0 := by simp; omega
  rw [e, List.drop_eq_getElem_cons hj, List.set_cons_zero, List.append_assoc]
  rfl
set_option maxRecDepth 100000 in
set_option maxHeartbeats 600000 in
theorem turned_walk (w : World) (d : Nat) (q0 : Option Addr) (c0 : Nat) (z : Int) (sw : Bool) (E : List (Tm × Tm)) (hE : EqAt w d (.slice q0 E.length c0) E) (hc0 : E.length ≤ c0) (hc1 : c0 ≤ maxLen) (hz1 : -9223372036854775808 ≤ z) (hz2 : z ≤ 9223372036854775807) :
    Calls Tryd.prog 5 #[.slice q0 E.length c0, .int .i64 z, .bool sw] w (fun e w' => e = .returned (.bool true) ∧ Below w.heap.size w w') := by
  have HEQ := Lib.hid (eqsA_any w d _ E hE (by unfold maxLen at hc1; omega))
  have HE := Lib.hid hE
  clear hE
  unfold maxLen at hc1
  go_enter Tryd.func5, Tryd.ntmps5
  go_upto_region 1 with (fail)
  go_wp2_with fail
  go_at_call 10
  with_reducible refine HEQ.out.mono ?_
  rintro e w1 ⟨r, rfl, hr, hb⟩
  have HR := Lib.hid hr
  have HB1 := Lib.hid hb
  clear hr hb HEQ
  cases r
  · go_wp2_with (go_at_call 11; ((with_reducible refine (alive13_any _).mono ?_); rintro e w4 ⟨rfl, hb⟩))
    go_ret
    exact ⟨rfl, HB1.out.trans (hb.mono HB1.out.size)⟩
  obtain ⟨hl20, hTS, htot⟩ := HR.out rfl
  have HT := Lib.hid (fun x hx => (⟨(hTS x hx).1.1, (hTS x hx).2.1⟩ : Typ x.1 ∧ Typ x.2))
  have HTOT := Lib.hid htot
  have HE1 := Lib.hid (HE.out.below HB1.out)
  clear HR hTS htot
  by_cases h0 : E.length = 0
  · rw [h0] at HE1 ⊢
    clear HE
    go_wp2_with (go_at_call 11; ((with_reducible refine (alive13_any _).mono ?_); rintro e w4 ⟨rfl, hb⟩))
    go_ret
    exact ⟨rfl, HB1.out.trans (hb.mono HB1.out.size)⟩
  have hpos : 0 < E.length := Nat.pos_of_ne_zero h0
  obtain ⟨K, hK, hKe⟩ := rem_n z E.length hpos hl20 hz1 hz2
  obtain ⟨q', c', us, e', hul, hut, huo, huc⟩ := HE1.out.open
  injection e' with e1 e2 e3
  clear e2
  subst e1 e3
  obtain ⟨g, o, rfl, hgl, hcell⟩ := huc (fun e => h0 (by rw [e]; rfl))
  have hX : EqO w1 [] d (.slice (some ⟨w1.heap.size, 0, none⟩) 0 0) [] ((w1.alloc (.cells #[] 43)).drew) :=
    ⟨⟨rfl, .inr ⟨w1.heap.size, 0, #[], rfl, Nat.le_refl _, hb_drewN (hb_new w1 _) 1, Nat.le_refl _, Nat.zero_le _, rfl, rfl⟩⟩, rfl, (below_alloc w1 _).drew, fun i x hx => by simp at hx⟩
  obtain ⟨v5, w5, hrun1, hE5, _⟩ := hX.app (G := E.drop K) (us := us.drop K) (g := g) (o := o + K * 10) (c := c0 - K) (by rw [List.length_drop, List.length_drop, hul]) (fun u hu => huo u (by
      rw [← List.take_append_drop K us, flatE_app]; exact List.mem_append_right _ hu)) (fun j u hj => by
      have h1 : (flatE us)[K * 10 + j]? = some u := by
        have h2 : flatE us = flatE (us.take K) ++ flatE (us.drop K) := by rw [← flatE_app, List.take_append_drop]
        rw [h2, List.getElem?_append_right (by rw [flatE_length, List.length_take]; omega), flatE_length, List.length_take, Nat.min_eq_left (by omega), Nat.add_sub_cancel_left]
        exact hj
      have h3 := hcell _ u h1
      rw [← Nat.add_assoc] at h3
      exact h3) (fun i x hx => by
      rw [List.getElem?_drop] at hx
      obtain ⟨t, h1, h2⟩ := hut _ x hx
      exact ⟨t, by rw [List.getElem?_drop]; exact h1, h2⟩) (by simp; omega)
  rw [List.nil_append, List.nil_append] at hE5
  rw [List.length_drop] at hrun1
  obtain ⟨g5, c5, hv5, hnc5⟩ : ∃ g5 c5, v5 = .slice (some ⟨g5, 0, none⟩) (E.length - K) c5 ∧ E.length - K ≤ c5 := by
    rcases hE5.row.2 with ⟨_, h⟩ | ⟨g5, cap, cur, e, _, _, hnc, _⟩
    · rw [List.length_drop] at h; omega
    · rw [List.length_drop] at e hnc; exact ⟨g5, cap, e, hnc⟩
  subst hv5
  have hsec : ∃ v6 w6 ws, (Builtin.append_ #[22, 22] 22 #[.slice (some ⟨g5, 0, none⟩) (E.length - K) c5, .slice (some ⟨g, o, none⟩) K c0]).run Tryd.prog w5 = .ok v6 w6 ∧ EqO w1 (E.drop K ++ E.take K) d v6 ws w6 := by
    by_cases hk0 : K = 0
    · subst hk0
      rcases append_none22 w5 g5 0 (E.length - 0) c5 c0 (some ⟨g, o, none⟩) with h | h
      · exact ⟨_, _, _, h, by rw [List.take_zero, List.append_nil]; exact hE5⟩
      · omega
    · obtain ⟨v6, w6, hrun2, hE6, _⟩ := hE5.app (G := E.take K) (us := us.take K) (g := g) (o := o) (c := c0) (by rw [List.length_take, List.length_take, hul]) (fun u hu => huo u (by
          rw [← List.take_append_drop K us, flatE_app]; exact List.mem_append_left _ hu)) (fun j u hj => by
          have h2 : flatE us = flatE (us.take K) ++ flatE (us.drop K) := by rw [← flatE_app, List.take_append_drop]
          have hlt := (List.getElem?_eq_some_iff.1 hj).1
          exact hcell _ u (by rw [h2, List.getElem?_append_left hlt]; exact hj)) (fun i x hx => by
          rw [List.getElem?_take] at hx
          split at hx
          · rename_i hi
            obtain ⟨t, h1, h2⟩ := hut _ x hx
            exact ⟨t, by rw [List.getElem?_take, if_pos hi]; exact h1, h2⟩
          · cases hx) (by simp; omega)
      rw [List.length_take, Nat.min_eq_left (by omega)] at hrun2
      exact ⟨v6, w6, _, hrun2, hE6⟩
  obtain ⟨v6, w6, ws, hrun2, hE6⟩ := hsec
  have hFl : (E.drop K ++ E.take K).length = E.length := by rw [List.length_append, List.length_drop, List.length_take]; omega
  obtain ⟨g6, c6, hv6, hnc6⟩ : ∃ g6 c6, v6 = .slice (some ⟨g6, 0, none⟩) E.length c6 ∧ E.length ≤ c6 := by
    rcases hE6.row.2 with ⟨_, h⟩ | ⟨g6, cap, cur, e, _, _, hnc, _⟩
    · rw [hFl] at h; omega
    · rw [hFl] at e hnc; exact ⟨g6, cap, e, hnc⟩
  subst hv6
  have HRUN1 := Lib.hid hrun1
  have HRUN2 := Lib.hid hrun2
  have HE6 := Lib.hid hE6
  have HFL := Lib.hid hFl
  have HTURN := Lib.hid (turn_rot E K sw)
  have HTR := Lib.hid (tot_rot d E K sw)
  have HTOT := Lib.hid HTOT.out
  have HSVA := Lib.hid hpos
  have hn0 : ((E.length : Int) == 0) = false := beq_eq_false_iff_ne.2 (by omega)
  have hn0' : ((E.length : Int) = 0) = False := eq_false (by omega)
  have hKc : K ≤ c0 := by omega
  have hcK : (c0 = K) = False := eq_false (by omega)
  have hKE : K ≤ E.length := by omega
  clear hrun1 hrun2 hE5 hE6 hX hut huo huc hcell hFl hpos
  generalize hL : E.length = L at *
  have HL := Lib.hid hL
  clear hL
  go_upto_region 4 with (fail)
  refine wp_region_held_drew (S := fun _ => True) (by kernel_rfl) (trivial) (fun hHeld => ?_)
  refine wpAnyH_take (i := 1) (oi := ⟨some 34, _, _, _, _, _⟩) (v := ?_) rfl (by kernel_rfl) (by kernel_rfl) (by kernel_rfl) (fun _ _ _ h => h) (Or.inl ⟨by rfl, ?_⟩) (by assumption) ?_
  rotate_left
  focus (intro w hSw; (try dsimp only at hSw); go_simp; first | done | with_reducible rfl)
  try simp only [Act.put, List.setIfInBounds_toArray, List.set_cons_zero, List.set_cons_succ]
  refine wpAnyH_take (i := 2) (oi := ⟨some 35, _, _, _, _, _⟩) (v := ?_) rfl (by kernel_rfl) (by kernel_rfl) (by kernel_rfl) (fun _ _ _ h => h) (Or.inl ⟨by rfl, ?_⟩) (by assumption) ?_
  rotate_left
  focus (intro w hSw; (try dsimp only at hSw); go_simp; first | done | with_reducible rfl)
  try simp only [Act.put, List.setIfInBounds_toArray, List.set_cons_zero, List.set_cons_succ]
  refine wpAnyH_take (i := 3) (oi := ⟨some 36, _, _, _, _, _⟩) (v := ?_) rfl (by kernel_rfl) (by kernel_rfl) (by kernel_rfl) (fun _ _ _ h => h) (Or.inl ⟨by rfl, ?_⟩) (by assumption) ?_
  rotate_left
  focus (intro w hSw; (try dsimp only at hSw); go_simp; first | done | with_reducible rfl)
  try simp only [Act.put, List.setIfInBounds_toArray, List.set_cons_zero, List.set_cons_succ]
  refine wpAnyH_take (i := 5) (oi := ⟨some 38, _, _, _, _, _⟩) (v := ?_) rfl (by kernel_rfl) (by kernel_rfl) (by kernel_rfl) (fun _ _ _ h => h) (Or.inl ⟨by rfl, ?_⟩) (by assumption) ?_
  rotate_left
  focus (intro w hSw; (try dsimp only at hSw); go_simp; first | done | with_reducible rfl)
  try simp only [Act.put, List.setIfInBounds_toArray, List.set_cons_zero, List.set_cons_succ]
  refine wpAnyH_take (i := 6) (oi := ⟨some 39, _, _, _, _, _⟩) (v := ?_) rfl (by kernel_rfl) (by kernel_rfl) (by kernel_rfl) (fun _ _ _ h => h) (Or.inl ⟨by rfl, ?_⟩) (by assumption) ?_
  rotate_left
  focus (intro w hSw; (try dsimp only at hSw); go_simp; first | done | with_reducible rfl)
  try simp only [Act.put, List.setIfInBounds_toArray, List.set_cons_zero, List.set_cons_succ]
  refine wpAnyH_take (i := 7) (oi := ⟨some 40, _, _, _, _, _⟩) (v := ?_) rfl (by kernel_rfl) (by kernel_rfl) (by kernel_rfl) (fun _ _ _ h => h) (Or.inl ⟨by rfl, ?_⟩) (by assumption) ?_
  rotate_left
  focus (intro w hSw; (try dsimp only at hSw); go_simp; first | done | with_reducible rfl)
  try simp only [Act.put, List.setIfInBounds_toArray, List.set_cons_zero, List.set_cons_succ]
  refine wpAnyH_ready (rs := [0]) (by kernel_rfl) (by simp) ?_
  refine AllReadyH.cons (o := ⟨some 33, _, _, _, _, _⟩) rfl (fun K hK => ?_) AllReadyH.nil
  go_simp
  refine hK.out _ _ (trivial) (fun hNew => ?_)
  clear hK K
  have hHeld := hNew
  try simp only [Act.put, List.setIfInBounds_toArray, List.set_cons_zero, List.set_cons_succ]
  refine wpAnyH_ready (rs := [4]) (by kernel_rfl) (by simp) ?_
  refine AllReadyH.cons (o := ⟨some 37, _, _, _, _, _⟩) rfl (fun K hK => ?_) AllReadyH.nil
  refine step_append rfl (.tmp 33) (.tmp 36) rfl rfl rfl rfl HRUN1.out ?_
  refine hK.out _ _ (trivial) (fun hNew => ?_)
  clear hK K
  have hHeld := hNew
  try simp only [Act.put, List.setIfInBounds_toArray, List.set_cons_zero, List.set_cons_succ]
  refine wpAnyH_ready (rs := [8]) (by kernel_rfl) (by simp) ?_
  refine AllReadyH.cons (o := ⟨some 41, _, _, _, _, _⟩) rfl (fun K hK => ?_) AllReadyH.nil
  refine step_append rfl (.tmp 37) (.tmp 40) rfl rfl rfl rfl HRUN2.out ?_
  refine hK.out _ _ (trivial) (fun hNew => ?_)
  clear hK K
  have hHeld := hNew
  try simp only [Act.put, List.setIfInBounds_toArray, List.set_cons_zero, List.set_cons_succ]
  refine wpAnyH_take (i := 9) (oi := ⟨some 8, _, _, _, _, _⟩) (v := ?_) rfl (by kernel_rfl) (by kernel_rfl) (by kernel_rfl) (fun _ _ _ h => h) (Or.inl ⟨by rfl, ?_⟩) (by assumption) ?_
  rotate_left
  focus (intro w hSw; (try dsimp only at hSw); go_simp; first | done | with_reducible rfl)
  try simp only [Act.put, List.setIfInBounds_toArray, List.set_cons_zero, List.set_cons_succ]
  refine wpAnyH_done (by kernel_rfl) ?_ _
  clear HRUN1 HRUN2 hKe hn0 hn0' hKc hcK hKE hnc5
  generalize hF : E.drop K ++ E.take K = F at *
  have HF := Lib.hid hF
  clear hF
  go_wp2
  go_loopw [44] (fun t wr => ∃ (j : Nat) (us : List TEq), j ≤ L ∧ t = .int .i64 j ∧ EqO w1 (turnsTo F sw j) d (.slice (some ⟨g6, 0, none⟩) L c6) us wr) (fun t _ => L - (intOf t).toNat)
  case atStart => exact ⟨0, _, Nat.zero_le _, rfl, by rw [turnsTo_zero]; exact HE6.out⟩
  case round =>
    obtain ⟨j, us9, hj, rfl, he9⟩ := hrel
    have HE9 := Lib.hid he9
    clear he9
    by_cases hlt : j < L
    · have hltb : decide (j < L) = true := by simpa using hlt
      cases sw with
      | false =>
        go_wp2
        refine ⟨⟨j + 1, us9, by omega, by go_num, ?_⟩, by simp [intOf]; omega⟩
        have h := HE9.out
        rw [turnsTo_false] at h ⊢
        exact h
      | true =>
        have hjF : j < F.length := by rw [HFL.out]; exact hlt
        have hat := turnsTo_at (sw := true) hjF
        obtain ⟨⟨⟨k, p, n, I, s⟩, ⟨k', p', n', I', s'⟩⟩, htx, hx1, hx2⟩ := HE9.out.trm j _ hat
        obtain ⟨q, ln, cc, hs1⟩ := hx1.spell
        obtain ⟨q', ln', cc', hs2⟩ := hx2.spell
        have hs1 : s = .slice q ln cc := hs1
        have hs2 : s' = .slice q' ln' cc' := hs2
        subst hs1 hs2
        obtain ⟨ta, tb⟩ := HE9.out.at htx
        simp only at ta tb
        have HX1 := Lib.hid hx1
        have HX2 := Lib.hid hx2
        have HJF := Lib.hid hjF
        have TA9 := Lib.hid ta
        have TB9 := Lib.hid tb
        obtain ⟨s0, s1, s2, s3, s4⟩ := ta
        obtain ⟨t0, t1, t2, t3, t4⟩ := tb
        clear hx1 hx2 htx
        go_upto_region 9 with (fail)
        refine Inv.regionP (by kernel_rfl) ?_
        refine Inv.take1 (i := 2) (oi := ⟨some 50, _, _, _, _, _⟩) (v := (.slice (some ⟨g6, 0, none⟩) L c6)) [2] rfl (by kernel_rfl) (by kernel_rfl) (by kernel_rfl) (fun _ _ _ h => h) (Or.inl ⟨by rfl, ?_⟩) (by kernel_rfl) ?_
        · intro w'
          go_simp
        simp only [Act.put, List.setIfInBounds_toArray, List.set_cons_zero, List.set_cons_succ]
        refine Inv.take1 (i := 3) (oi := ⟨some 51, _, _, _, _, _⟩) (v := (.int .i64 j)) [2, 3] rfl (by kernel_rfl) (by kernel_rfl) (by kernel_rfl) (fun _ _ _ h => h) (Or.inl ⟨by rfl, ?_⟩) (by kernel_rfl) ?_
        · intro w'
          go_simp
        simp only [Act.put, List.setIfInBounds_toArray, List.set_cons_zero, List.set_cons_succ]
        refine Inv.regionT [0, 1, 4, 5, 6, 7, 8, 9, 10, 11, 12, 13] [2, 3] 14 [15, 16, 17, 18, 19] [some 48, some 49, some 50, some 51, some 52, some 53, some 54, some 55, some 56, some 57, some 58, some 59, some 60, some 61, some 62, some 63, none, some 64, some 65, none] [[], [], [], [], [4, 5], [6], [7], [], [], [9, 10], [11], [12]] (by kernel_rfl) (by kernel_rfl) (by kernel_rfl) (by kernel_rfl) (by kernel_rfl) [Inv.MP.is (.slice (some ⟨g6, 0, none⟩) L c6), Inv.MP.is (.int .i64 j), Inv.MP.any, Inv.MP.any, Inv.MP.is (.slice (some ⟨g6, 0, none⟩) L c6), Inv.MP.is (.int .i64 j), Inv.MP.is (.pointer (some ⟨g6, j * 10, none⟩)), Inv.MP.is (.pointer (some ⟨g6, j * 10 + 5, none⟩)), Inv.MP.is (tv k' p' n' I' (.slice q' ln' cc')), Inv.MP.is (.slice (some ⟨g6, 0, none⟩) L c6), Inv.MP.is (.int .i64 j), Inv.MP.is (.pointer (some ⟨g6, j * 10, none⟩)), Inv.MP.is (.pointer (some ⟨g6, j * 10, none⟩)), Inv.MP.is (tv k p n I (.slice q ln cc))] [] (by intro x hx; cases hx) _ (by kernel_rfl) ⟨?_, ?_, ?_, ?_, ?_, ?_, ?_, ?_, ?_, ?_, ?_, ?_, trivial⟩ (fun vs wq hbq hv htie => ?_)
        · intro vs w' hb hv K hK
          clear hv
          have hK2 := hK.out
          clear hK
          simp only [Inv.putD, Inv.dst, List.foldl_cons, List.foldl_nil, List.getD_cons_zero, List.getD_cons_succ, Act.put, List.setIfInBounds_toArray, List.set_cons_zero, List.set_cons_succ, List.filterMap_cons, List.filterMap_nil, List.getElem?_toArray, List.getElem?_cons_zero, List.getElem?_cons_succ, List.getElem_toArray, List.getElem_cons_zero, List.getElem_cons_succ, List.length_cons, List.length_nil] at hK2 ⊢
          have hK := Lib.hid hK2
          clear hK2
          simp only [Region.wanted, Inv.yieldedD, Inv.dst, List.getD_cons_zero, List.getD_cons_succ]
          go_simp
          refine hK.out _ _ (Eq.refl _) (Below.refl _ _) (Inv.noTies _ _ _ _ _)
        · intro vs w' hb hv K hK
          clear hv
          have hK2 := hK.out
          clear hK
          simp only [Inv.putD, Inv.dst, List.foldl_cons, List.foldl_nil, List.getD_cons_zero, List.getD_cons_succ, Act.put, List.setIfInBounds_toArray, List.set_cons_zero, List.set_cons_succ, List.filterMap_cons, List.filterMap_nil, List.getElem?_toArray, List.getElem?_cons_zero, List.getElem?_cons_succ, List.getElem_toArray, List.getElem_cons_zero, List.getElem_cons_succ, List.length_cons, List.length_nil] at hK2 ⊢
          have hK := Lib.hid hK2
          clear hK2
          simp only [Region.wanted, Inv.yieldedD, Inv.dst, List.getD_cons_zero, List.getD_cons_succ]
          go_simp
          refine hK.out _ _ (Eq.refl _) (Below.refl _ _) (Inv.noTies _ _ _ _ _)
        · intro vs w' hb hv K hK
          clear hv
          have hK2 := hK.out
          clear hK
          simp only [Inv.putD, Inv.dst, List.foldl_cons, List.foldl_nil, List.getD_cons_zero, List.getD_cons_succ, Act.put, List.setIfInBounds_toArray, List.set_cons_zero, List.set_cons_succ, List.filterMap_cons, List.filterMap_nil, List.getElem?_toArray, List.getElem?_cons_zero, List.getElem?_cons_succ, List.getElem_toArray, List.getElem_cons_zero, List.getElem_cons_succ, List.length_cons, List.length_nil] at hK2 ⊢
          have hK := Lib.hid hK2
          clear hK2
          simp only [Region.wanted, Inv.yieldedD, Inv.dst, List.getD_cons_zero, List.getD_cons_succ]
          go_simp
          refine hK.out _ _ (Eq.refl _) (Below.refl _ _) (Inv.noTies _ _ _ _ _)
        · intro vs w' hb hv K hK
          clear hv
          have hK2 := hK.out
          clear hK
          simp only [Inv.putD, Inv.dst, List.foldl_cons, List.foldl_nil, List.getD_cons_zero, List.getD_cons_succ, Act.put, List.setIfInBounds_toArray, List.set_cons_zero, List.set_cons_succ, List.filterMap_cons, List.filterMap_nil, List.getElem?_toArray, List.getElem?_cons_zero, List.getElem?_cons_succ, List.getElem_toArray, List.getElem_cons_zero, List.getElem_cons_succ, List.length_cons, List.length_nil] at hK2 ⊢
          have hK := Lib.hid hK2
          clear hK2
          simp only [Region.wanted, Inv.yieldedD, Inv.dst, List.getD_cons_zero, List.getD_cons_succ]
          go_simp
          refine hK.out _ _ (Eq.refl _) (Below.refl _ _) (Inv.noTies _ _ _ _ _)
        · intro vs w' hb hv K hK
          have h4 : (Inv.MP.is (.slice (some ⟨g6, 0, none⟩) L c6)).p (vs 4) w' := hv 4 (by simp)
          have h5 : (Inv.MP.is (.int .i64 j)).p (vs 5) w' := hv 5 (by simp)
          clear hv
          have hK2 := hK.out
          clear hK
          simp only [Inv.putD, Inv.dst, List.foldl_cons, List.foldl_nil, List.getD_cons_zero, List.getD_cons_succ, Act.put, List.setIfInBounds_toArray, List.set_cons_zero, List.set_cons_succ, List.filterMap_cons, List.filterMap_nil, List.getElem?_toArray, List.getElem?_cons_zero, List.getElem?_cons_succ, List.getElem_toArray, List.getElem_cons_zero, List.getElem_cons_succ, List.length_cons, List.length_nil] at hK2 ⊢
          have hK := Lib.hid hK2
          clear hK2
          generalize vs 4 = y4 at *
          generalize vs 5 = y5 at *
          have h4 : y4 = _ := h4
          subst h4
          have h5 : y5 = _ := h5
          subst h5
          simp only [Region.wanted, Inv.yieldedD, Inv.dst, List.getD_cons_zero, List.getD_cons_succ]
          go_simp
          refine hK.out _ _ (Eq.refl _) (Below.refl _ _) (Inv.noTies _ _ _ _ _)
        · intro vs w' hb hv K hK
          have h6 : (Inv.MP.is (.pointer (some ⟨g6, j * 10, none⟩))).p (vs 6) w' := hv 6 (by simp)
          clear hv
          have hK2 := hK.out
          clear hK
          simp only [Inv.putD, Inv.dst, List.foldl_cons, List.foldl_nil, List.getD_cons_zero, List.getD_cons_succ, Act.put, List.setIfInBounds_toArray, List.set_cons_zero, List.set_cons_succ, List.filterMap_cons, List.filterMap_nil, List.getElem?_toArray, List.getElem?_cons_zero, List.getElem?_cons_succ, List.getElem_toArray, List.getElem_cons_zero, List.getElem_cons_succ, List.length_cons, List.length_nil] at hK2 ⊢
          have hK := Lib.hid hK2
          clear hK2
          generalize vs 6 = y6 at *
          have h6 : y6 = _ := h6
          subst h6
          simp only [Region.wanted, Inv.yieldedD, Inv.dst, List.getD_cons_zero, List.getD_cons_succ]
          go_simp
          refine hK.out _ _ (Eq.refl _) (Below.refl _ _) (Inv.noTies _ _ _ _ _)
        · intro vs w' hb hv K hK
          have h7 : (Inv.MP.is (.pointer (some ⟨g6, j * 10 + 5, none⟩))).p (vs 7) w' := hv 7 (by simp)
          clear hv
          have hK2 := hK.out
          clear hK
          simp only [Inv.putD, Inv.dst, List.foldl_cons, List.foldl_nil, List.getD_cons_zero, List.getD_cons_succ, Act.put, List.setIfInBounds_toArray, List.set_cons_zero, List.set_cons_succ, List.filterMap_cons, List.filterMap_nil, List.getElem?_toArray, List.getElem?_cons_zero, List.getElem?_cons_succ, List.getElem_toArray, List.getElem_cons_zero, List.getElem_cons_succ, List.length_cons, List.length_nil] at hK2 ⊢
          have hK := Lib.hid hK2
          clear hK2
          generalize vs 7 = y7 at *
          have h7 : y7 = _ := h7
          subst h7
          have c0 := keep_cell hb t0
          have c1 := keep_cell hb t1
          have c2 := keep_cell hb t2
          have c3 := keep_cell hb t3
          have c4 := keep_cell hb t4
          simp only [Region.wanted, Inv.yieldedD, Inv.dst, List.getD_cons_zero, List.getD_cons_succ]
          go_simp
          refine hK.out _ _ (Eq.refl _) (Below.refl _ _) (Inv.noTies _ _ _ _ _)
        · intro vs w' hb hv K hK
          clear hv
          have hK2 := hK.out
          clear hK
          simp only [Inv.putD, Inv.dst, List.foldl_cons, List.foldl_nil, List.getD_cons_zero, List.getD_cons_succ, Act.put, List.setIfInBounds_toArray, List.set_cons_zero, List.set_cons_succ, List.filterMap_cons, List.filterMap_nil, List.getElem?_toArray, List.getElem?_cons_zero, List.getElem?_cons_succ, List.getElem_toArray, List.getElem_cons_zero, List.getElem_cons_succ, List.length_cons, List.length_nil] at hK2 ⊢
          have hK := Lib.hid hK2
          clear hK2
          simp only [Region.wanted, Inv.yieldedD, Inv.dst, List.getD_cons_zero, List.getD_cons_succ]
          go_simp
          refine hK.out _ _ (Eq.refl _) (Below.refl _ _) (Inv.noTies _ _ _ _ _)
        · intro vs w' hb hv K hK
          clear hv
          have hK2 := hK.out
          clear hK
          simp only [Inv.putD, Inv.dst, List.foldl_cons, List.foldl_nil, List.getD_cons_zero, List.getD_cons_succ, Act.put, List.setIfInBounds_toArray, List.set_cons_zero, List.set_cons_succ, List.filterMap_cons, List.filterMap_nil, List.getElem?_toArray, List.getElem?_cons_zero, List.getElem?_cons_succ, List.getElem_toArray, List.getElem_cons_zero, List.getElem_cons_succ, List.length_cons, List.length_nil] at hK2 ⊢
          have hK := Lib.hid hK2
          clear hK2
          simp only [Region.wanted, Inv.yieldedD, Inv.dst, List.getD_cons_zero, List.getD_cons_succ]
          go_simp
          refine hK.out _ _ (Eq.refl _) (Below.refl _ _) (Inv.noTies _ _ _ _ _)
        · intro vs w' hb hv K hK
          have h9 : (Inv.MP.is (.slice (some ⟨g6, 0, none⟩) L c6)).p (vs 9) w' := hv 9 (by simp)
          have h10 : (Inv.MP.is (.int .i64 j)).p (vs 10) w' := hv 10 (by simp)
          clear hv
          have hK2 := hK.out
          clear hK
          simp only [Inv.putD, Inv.dst, List.foldl_cons, List.foldl_nil, List.getD_cons_zero, List.getD_cons_succ, Act.put, List.setIfInBounds_toArray, List.set_cons_zero, List.set_cons_succ, List.filterMap_cons, List.filterMap_nil, List.getElem?_toArray, List.getElem?_cons_zero, List.getElem?_cons_succ, List.getElem_toArray, List.getElem_cons_zero, List.getElem_cons_succ, List.length_cons, List.length_nil] at hK2 ⊢
          have hK := Lib.hid hK2
          clear hK2
          generalize vs 9 = y9 at *
          generalize vs 10 = y10 at *
          have h9 : y9 = _ := h9
          subst h9
          have h10 : y10 = _ := h10
          subst h10
          simp only [Region.wanted, Inv.yieldedD, Inv.dst, List.getD_cons_zero, List.getD_cons_succ]
          go_simp
          refine hK.out _ _ (Eq.refl _) (Below.refl _ _) (Inv.noTies _ _ _ _ _)
        · intro vs w' hb hv K hK
          have h11 : (Inv.MP.is (.pointer (some ⟨g6, j * 10, none⟩))).p (vs 11) w' := hv 11 (by simp)
          clear hv
          have hK2 := hK.out
          clear hK
          simp only [Inv.putD, Inv.dst, List.foldl_cons, List.foldl_nil, List.getD_cons_zero, List.getD_cons_succ, Act.put, List.setIfInBounds_toArray, List.set_cons_zero, List.set_cons_succ, List.filterMap_cons, List.filterMap_nil, List.getElem?_toArray, List.getElem?_cons_zero, List.getElem?_cons_succ, List.getElem_toArray, List.getElem_cons_zero, List.getElem_cons_succ, List.length_cons, List.length_nil] at hK2 ⊢
          have hK := Lib.hid hK2
          clear hK2
          generalize vs 11 = y11 at *
          have h11 : y11 = _ := h11
          subst h11
          simp only [Region.wanted, Inv.yieldedD, Inv.dst, List.getD_cons_zero, List.getD_cons_succ]
          go_simp
          refine hK.out _ _ (Eq.refl _) (Below.refl _ _) (Inv.noTies _ _ _ _ _)
        · intro vs w' hb hv K hK
          have h12 : (Inv.MP.is (.pointer (some ⟨g6, j * 10, none⟩))).p (vs 12) w' := hv 12 (by simp)
          clear hv
          have hK2 := hK.out
          clear hK
          simp only [Inv.putD, Inv.dst, List.foldl_cons, List.foldl_nil, List.getD_cons_zero, List.getD_cons_succ, Act.put, List.setIfInBounds_toArray, List.set_cons_zero, List.set_cons_succ, List.filterMap_cons, List.filterMap_nil, List.getElem?_toArray, List.getElem?_cons_zero, List.getElem?_cons_succ, List.getElem_toArray, List.getElem_cons_zero, List.getElem_cons_succ, List.length_cons, List.length_nil] at hK2 ⊢
          have hK := Lib.hid hK2
          clear hK2
          generalize vs 12 = y12 at *
          have h12 : y12 = _ := h12
          subst h12
          have c0 := keep_cell hb s0
          have c1 := keep_cell hb s1
          have c2 := keep_cell hb s2
          have c3 := keep_cell hb s3
          have c4 := keep_cell hb s4
          simp only [Region.wanted, Inv.yieldedD, Inv.dst, List.getD_cons_zero, List.getD_cons_succ]
          go_simp
          refine hK.out _ _ (Eq.refl _) (Below.refl _ _) (Inv.noTies _ _ _ _ _)
        · have h0 : vs 0 = .slice (some ⟨g6, 0, none⟩) L c6 := hv 0 (by simp)
          have h1 : vs 1 = .int .i64 j := hv 1 (by simp)
          have h8 : vs 8 = tv k' p' n' I' (.slice q' ln' cc') := hv 8 (by simp)
          have h13 : vs 13 = tv k p n I (.slice q ln cc) := hv 13 (by simp)
          clear hv htie
          simp only [Inv.putD, Inv.dst, List.foldl_cons, List.foldl_nil, List.getD_cons_zero, List.getD_cons_succ, Act.put, List.setIfInBounds_toArray, List.set_cons_zero, List.set_cons_succ, List.filterMap_cons, List.filterMap_nil, List.getElem?_toArray, List.getElem?_cons_zero, List.getElem?_cons_succ, List.getElem_toArray, List.getElem_cons_zero, List.getElem_cons_succ, List.length_cons, List.length_nil]
          generalize vs 0 = y0 at *
          generalize vs 1 = y1 at *
          generalize vs 4 = y4 at *
          generalize vs 5 = y5 at *
          generalize vs 6 = y6 at *
          generalize vs 7 = y7 at *
          generalize vs 8 = y8 at *
          generalize vs 9 = y9 at *
          generalize vs 10 = y10 at *
          generalize vs 11 = y11 at *
          generalize vs 12 = y12 at *
          generalize vs 13 = y13 at *
          subst h0 h1 h8 h13
          have HBQ := Lib.hid hbq
          have HEO := Lib.hid (HE9.out.below hbq)
          obtain ⟨s0, s1, s2, s3, s4⟩ := TA9.out.below hbq TA9.out.lt
          obtain ⟨t0, t1, t2, t3, t4⟩ := TB9.out.below hbq TB9.out.lt
          have hfz := HEO.out.frz
          have f0 := hfz (j * 10)
          have f1 := hfz (j * 10 + 1)
          have f2 := hfz (j * 10 + 2)
          have f3 := hfz (j * 10 + 3)
          have f4 := hfz (j * 10 + 4)
          have f5 := hfz (j * 10 + 5)
          have f6 := hfz (j * 10 + 6)
          have f7 := hfz (j * 10 + 7)
          have f8 := hfz (j * 10 + 8)
          have f9 := hfz (j * 10 + 9)
          clear hfz hbq
          go_wp2
          refine ⟨⟨j + 1, us9.set j ((k', p', n', I', .slice q' ln' cc'), (k, p, n, I, .slice q ln cc)), by omega, by go_num, ?_⟩, by simp [intOf]; omega⟩
          rw [turnsTo_next HJF.out]
          exact HEO.out.set10 (by rw [turnsTo_len]; exact HJF.out) (t := ((k', p', n', I', .slice q' ln' cc'), (k, p, n, I, .slice q ln cc))) HX2.out HX1.out
    · obtain rfl : j = L := by omega
      have hltb : decide (j < j) = false := by simp
      have hFE := HE9.out.eqAt
      have hbel := HE9.out.bel
      have e9 : turnsTo F sw j = F.map (turnE sw) := by rw [← HFL.out]; exact turnsTo_all F sw
      have hlen9 : (turnsTo F sw j).length = j := by rw [turnsTo_len, HFL.out]
      rw [e9] at hFE
      have HFE := Lib.hid hFE
      have HBE := Lib.hid hbel
      have hTF : ∀ x ∈ F.map (turnE sw), Typ x.1 ∧ Typ x.2 := fun x hx => by
        rcases HTURN.out.1 x hx with h | h
        · exact HT.out x h
        · exact (HT.out _ h).symm
      have HC1 := Lib.hid (solveK_any wr d _ E (HE1.out.below hbel) HT.out (by have := HTOT.out; omega) (by rw [HL.out]; omega))
      have HTF := Lib.hid hTF
      clear hFE hbel e9 hTF hlen9
      go_upto_region 12 with (go_at_call 12; (with_reducible refine HC1.out.mono ?_); rintro e w2 ⟨q1, l1, c1, k1, rfl, hs1, hb1⟩; have HS1 := Lib.hid hs1; have HB2 := Lib.hid hb1; clear hs1 hb1)
      have hlF : (F.map (turnE sw)).length ≤ 1000 := by rw [List.length_map, HFL.out]; omega
      have HC2 := Lib.hid (solveK_any w2 d _ (F.map (turnE sw)) (HFE.out.below HB2.out) HTF.out (by rw [HTR.out]; have := HTOT.out; omega) hlF)
      clear hlF
      go_upto_region 13 with (go_at_call 12; (with_reducible refine HC2.out.mono ?_); rintro e w3 ⟨q2, l2, c2, k2, rfl, hs2, hb2⟩; obtain rfl := solK_turn HTURN.out HS1.out hs2; have HB3 := Lib.hid (HB2.out.trans (hb2.mono HB2.out.size)); clear hs2 hb2)
      have HB4 := Lib.hid (HB1.out.trans ((HBE.out.trans (HB3.out.mono HBE.out.size)).mono HB1.out.size))
      have hkk : (k1 == k1) = true := beq_self_eq_true k1
      clear HB3
      go_wp2_with (first
        | (go_at_call 15; (with_reducible refine (no13_any _ _).mono ?_); rintro e w5 ⟨rfl, hb5⟩; have HB4 := Lib.hid (HB4.out.trans (hb5.mono HB4.out.size)); clear hb5)
        | (go_at_call 11; (with_reducible refine (alive13_any _).mono ?_); rintro e w6 ⟨rfl, hb6⟩; have HB4 := Lib.hid (HB4.out.trans (hb6.mono HB4.out.size)); clear hb6))
      go_ret
      exact ⟨rfl, HB4.out⟩
theorem turned_arg (w : World) (d : Nat) (v : Value) (z : Int) (sw : Bool) (E : List (Tm × Tm)) (hE : EqAt w d v E) (hcap : ∃ (q : Option Addr) (l c : Nat), v = .slice q l c ∧ l ≤ c ∧ c ≤ maxLen) (hz1 : -9223372036854775808 ≤ z) (hz2 : z ≤ 9223372036854775807) :
    Calls Tryd.prog 5 #[v, .int .i64 z, .bool sw] w (fun e w' => e = .returned (.bool true) ∧ Below w.heap.size w w') := by
  have hE2 := hE
  obtain ⟨q, c, rfl, _⟩ := hE
  obtain ⟨q', l', c', e, h1, h2⟩ := hcap
  injection e with e1 e2 e3
  subst e1 e2 e3
  exact turned_walk w d q c z sw E hE2 h1 h2 hz1 hz2
end Go.Proofs.YtncebhddcokkoaaDoor
