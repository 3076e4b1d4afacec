/- The document's Sorted: its walk. -/
import Derived.Test.YtmgnbpgcbehidaaJ6
import Derived.Outline
namespace Go.Proofs.Ytmgnbpgcbehidaa
open Go.RowKit
/-- A row of the call's own, as a slice of versions with room. -/
theorem own_shape {w : World} {base : Nat} {v : Value} {l : List Sv.V} (h : w.ownsRow base 23 3 v l.length (flatV l)) : ∃ q c, v = .slice q l.length c ∧ l.length ≤ c ∧ c ≤ maxLen ∧ (∀ i x, l[i]? = some x → ∃ b o, q = some ⟨b, o, none⟩ ∧ VAt w b (o + i * 3) x) ∧ (q = none ∧ c = 0 ∨ ∃ g, q = some ⟨g, 0, none⟩ ∧ g < w.heap.size) := by
  obtain ⟨q, c, e, hx⟩ := VRow.own h
  refine ⟨q, c, e, ?_⟩
  subst e
  rcases h.2 with ⟨h1, h2⟩ | ⟨g, cap, cur, h1, _, h3, h4, h5, _⟩
  · injection h1 with h1 h6 h7
    subst h1 h7
    exact ⟨by omega, by unfold maxLen; omega, hx, .inl ⟨rfl, rfl⟩⟩
  · injection h1 with h1 h6 h7
    subst h1 h7
    exact ⟨h4, h5, hx, .inr ⟨g, rfl, hb_lt h3⟩⟩
theorem ite_ne {α : Type} {x y : Sv.V} (h : y ≠ x) (A B : α) : (if y.a = x.a then if y.b = x.b then if y.c = x.c then A else B else B else B) = B := by
  by_cases h1 : y.a = x.a
  · by_cases h2 : y.b = x.b
    · by_cases h3 : y.c = x.c
      · exact absurd (by cases x; cases y; simp_all) h
      · rw [if_pos h1, if_pos h2, if_neg h3]
    · rw [if_pos h1, if_neg h2]
  · rw [if_neg h1]
theorem VRow.drop {w : World} {b2 o2 c' k : Nat} {l : List Sv.V} (h : ∀ i x, l[i]? = some x → ∃ b o, some ⟨b2, o2, none⟩ = some (⟨b, o, none⟩ : Addr) ∧ VAt w b (o + i * 3) x) : VRow w (.slice (some ⟨b2, o2 + k * 3, none⟩) (l.length - k) c') (l.drop k) := by
  refine ⟨_, c', by rw [List.length_drop], fun i x hx => ⟨b2, o2 + k * 3, rfl, ?_⟩⟩
  rw [List.getElem?_drop] at hx
  obtain ⟨b, o, h1, h2⟩ := h _ x hx
  cases h1
  rw [show o2 + k * 3 + i * 3 = o2 + (k + i) * 3 by omega]
  exact h2
theorem mem_next2 {l : List Sv.V} {n : Nat} (hn : n < l.length) (z : Sv.V) : z ∈ l.take (n + 1) ↔ z ∈ l.take n ∨ z = l[n] := by
  rw [List.take_succ_eq_append_getElem hn, List.mem_append, List.mem_singleton]
theorem mem_same {l L : List Sv.V} {n k : Nat} {x : Sv.V} (hn : n < l.length) (hm : ∀ z, z ∈ L ↔ z ∈ l.take n) (hx : l[n] = x) (hk : k < L.length) (hy : L[k] = x) : ∀ z, z ∈ L ↔ z ∈ l.take (n + 1) := by
  intro z
  rw [mem_next2 hn, hx, ← hm]
  exact ⟨.inl, fun h => h.elim id fun e => by rw [e, ← hy]; exact List.getElem_mem _⟩
theorem mem_more2 {l L : List Sv.V} {n k : Nat} {x : Sv.V} (hn : n < l.length) (hm : ∀ z, z ∈ L ↔ z ∈ l.take n) (hx : l[n] = x) : ∀ z, z ∈ [] ++ L.take k ++ [x] ++ L.drop k ↔ z ∈ l.take (n + 1) := by
  intro z
  rw [mem_next2 hn, hx, ← hm, List.nil_append, Sv.mem_put]
  exact Or.comm
theorem own_below {w w' : World} {base : Nat} {e : TypeId} {size n : Nat} {v : Value} {xs : List Value} (h : w.ownsRow base e size v n xs) (hb : Below w.heap.size w w') : w'.ownsRow base e size v n xs := by
  refine ⟨h.1, ?_⟩
  rcases h.2 with h1 | ⟨g, cap, cur, h1, h2, h3, h4⟩
  · exact .inl h1
  · exact .inr ⟨g, cap, cur, h1, h2, hb_below h3 hb (hb_lt h3), h4⟩
theorem own_base {w : World} {base base' : Nat} {e : TypeId} {size n : Nat} {v : Value} {xs : List Value} (h : w.ownsRow base e size v n xs) (hb : base' ≤ base) : w.ownsRow base' e size v n xs := by
  refine ⟨h.1, ?_⟩
  rcases h.2 with h1 | ⟨g, cap, cur, h1, h2, h3⟩
  · exact .inl h1
  · exact .inr ⟨g, cap, cur, h1, by omega, h3⟩
set_option maxRecDepth 100000 in
set_option maxHeartbeats 4000000 in
theorem refSorted_any (vl : Value) (l : List Sv.V) (w : World) (hr : VRow w vl l) (hl : l.length ≤ 60) :
    Calls Try.prog 22 #[vl] w (RefSortedR l w) := by
  obtain ⟨q, c, rfl, hrow⟩ := hr
  have HR := Lib.hid hrow
  clear hrow
  go_enter Try.func22, Try.ntmps22
  go_wp2
  go_loopw [3, 4] (fun vo i wr => ∃ (n : Nat) (L : List Sv.V), n ≤ l.length ∧ i = .int .i64 n ∧ wr.ownsRow w.heap.size 23 3 vo L.length (flatV L) ∧ Sv.Up L ∧ (∀ x, x ∈ L ↔ x ∈ l.take n) ∧ L.length ≤ n ∧ Below w.heap.size w wr) (fun _ i _ => l.length - (intOf i).toNat)
  case atStart => exact ⟨0, [], Nat.zero_le _, rfl, ⟨rfl, .inl ⟨rfl, rfl⟩⟩, List.Pairwise.nil, by simp, Nat.le_refl _, Below.refl _ _⟩
  case round =>
    obtain ⟨n, L, hn, rfl, hown, hup, hmem, hlen, hB⟩ := hrel
    obtain ⟨wq, hwq⟩ : ∃ wq, wq = wr := ⟨_, rfl⟩
    subst hwq
    by_cases hlt : n < l.length
    · obtain ⟨b, o, hq, ha⟩ := HR.out n l[n] (List.getElem?_eq_getElem hlt)
      subst hq
      have hni : (n : Int) < (l.length : Int) := by omega
      have HSN := Lib.hid (Sv.mem_next hlt)
      obtain ⟨q2, c2, hvo, hc2, hm2, hrow2, hq2⟩ := own_shape hown
      subst hvo
      unfold maxLen at hm2
      have ha2 := ha.below hB ha.lt
      have hxw : b < wq.heap.size := Nat.lt_of_lt_of_le ha.lt hB.size
      have HR2 := Lib.hid hrow2
      have HUp := Lib.hid hup
      have HM := Lib.hid hmem
      have HB := Lib.hid hB
      have HA := Lib.hid ha2
      have HO := Lib.hid hown
      have HQ := Lib.hid hq2
      clear hrow2 hup hmem hB ha ha2 hown hq2
      go_wp2
      go_loopw [5] (fun kk wr => ∃ k : Nat, k ≤ L.length ∧ kk = .int .i64 k ∧ (∀ j (hj : j < L.length), j < k → Sv.less L[j] l[n] = true) ∧ Below wq.heap.size wq wr) (fun kk _ => L.length - (intOf kk).toNat)
      case atStart => exact ⟨0, Nat.zero_le _, rfl, fun j hj h => by omega, Below.refl _ _⟩
      case round =>
        obtain ⟨k, hk, rfl, hall, hI⟩ := hrel
        obtain ⟨x0, x1, x2⟩ := HA.out.below hI hxw
        have HALL := Lib.hid hall
        have HI := Lib.hid hI
        have hzi := hI.size
        clear hall hI
        by_cases hkl : k < L.length
        · obtain ⟨b2, o2, hq2, hy⟩ := HR2.out k L[k] (List.getElem?_eq_getElem hkl)
          subst hq2
          have hyw : b2 < wq.heap.size := hy.lt
          obtain ⟨y0, y1, y2⟩ := hy.below HI.out hy.lt
          have hki : (k : Int) < (L.length : Int) := by omega
          have d1 : decide ((k : Int) < (L.length : Int)) = true := by simpa using hki
          clear hy
          rcases Bool.eq_false_or_eq_true (Sv.less L[k] l[n]) with hle | hle
          · have HL := Lib.hid (fun W => less_lit L[k] l[n] true hle W)
            have HN : RowKit.Hid (∀ j (hj : j < L.length), j < k + 1 → Sv.less L[j] l[n] = true) := Lib.hid (fun j hj hjk => by
              rcases Nat.lt_or_ge j k with h | h
              · exact HALL.out j hj h
              · obtain rfl : j = k := by omega
                exact hle)
            clear hle
            generalize L[k] = y at *
            generalize l[n] = x at *
            go_wp2
            refine wp_region_held_drew (S := (fun w' => RowKit.Hid (Below wr.heap.size wr w') ∧ w'.cell? ⟨b, o + n * 3, none⟩ = some (.int .i64 x.a) ∧ w'.cell? ⟨b, o + n * 3 + 1, none⟩ = some (.int .i64 x.b) ∧ w'.cell? ⟨b, o + n * 3 + 2, none⟩ = some (.int .i64 x.c) ∧ w'.cell? ⟨b2, o2 + k * 3, none⟩ = some (.int .i64 y.a) ∧ w'.cell? ⟨b2, o2 + k * 3 + 1, none⟩ = some (.int .i64 y.b) ∧ w'.cell? ⟨b2, o2 + k * 3 + 2, none⟩ = some (.int .i64 y.c))) (by kernel_rfl) (by exact ⟨Lib.hid (below_drewN (Below.refl _ _) 1), x0, x1, x2, y0, y1, y2⟩) (fun hHeld => ?_)
            refine wpAnyH_take (i := 0) (oi := ⟨some 12, _, _, _, _, _⟩) (v := ?_) rfl (by kernel_rfl) (by kernel_rfl) (by kernel_rfl) (fun _ _ _ h => h) (Or.inl ⟨by rfl, ?_⟩) (by assumption) ?_
            rotate_left
            focus (intro w hSw; (try dsimp only at hSw); go_simp; first | done | with_reducible rfl)
            try simp only [Act.put, List.setIfInBounds_toArray, List.set_cons_zero, List.set_cons_succ]
            refine wpAnyH_take (i := 1) (oi := ⟨some 13, _, _, _, _, _⟩) (v := ?_) rfl (by kernel_rfl) (by kernel_rfl) (by kernel_rfl) (fun _ _ _ h => h) (Or.inl ⟨by rfl, ?_⟩) (by assumption) ?_
            rotate_left
            focus (intro w hSw; (try dsimp only at hSw); go_simp; first | done | with_reducible rfl)
            try simp only [Act.put, List.setIfInBounds_toArray, List.set_cons_zero, List.set_cons_succ]
            refine wpAnyH_take (i := 2) (oi := ⟨some 14, _, _, _, _, _⟩) (v := ?_) rfl (by kernel_rfl) (by kernel_rfl) (by kernel_rfl) (fun _ _ _ h => h) (Or.inl ⟨by rfl, ?_⟩) (by assumption) ?_
            rotate_left
            focus (intro w hSw; (try dsimp only at hSw); go_simp; first | done | with_reducible rfl)
            try simp only [Act.put, List.setIfInBounds_toArray, List.set_cons_zero, List.set_cons_succ]
            refine wpAnyH_take (i := 3) (oi := ⟨some 15, _, _, _, _, _⟩) (v := ?_) rfl (by kernel_rfl) (by kernel_rfl) (by kernel_rfl) (fun _ _ _ h => h) (Or.inl ⟨by rfl, ?_⟩) (by assumption) ?_
            rotate_left
            focus (intro w hSw; (try dsimp only at hSw); go_simp; first | done | with_reducible rfl)
            try simp only [Act.put, List.setIfInBounds_toArray, List.set_cons_zero, List.set_cons_succ]
            refine wpAnyH_take (i := 4) (oi := ⟨some 16, _, _, _, _, _⟩) (v := ?_) rfl (by kernel_rfl) (by kernel_rfl) (by kernel_rfl) (fun _ _ _ h => h) (Or.inl ⟨by rfl, ?_⟩) (by assumption) ?_
            rotate_left
            focus (intro w hSw; (try dsimp only at hSw); go_simp; first | done | with_reducible rfl)
            try simp only [Act.put, List.setIfInBounds_toArray, List.set_cons_zero, List.set_cons_succ]
            refine wpAnyH_take (i := 5) (oi := ⟨some 17, _, _, _, _, _⟩) (v := ?_) rfl (by kernel_rfl) (by kernel_rfl) (by kernel_rfl) (fun _ _ _ h => h) (Or.inl ⟨by rfl, ?_⟩) (by assumption) ?_
            rotate_left
            focus (intro w hSw; (try dsimp only at hSw); go_simp; first | done | with_reducible rfl)
            try simp only [Act.put, List.setIfInBounds_toArray, List.set_cons_zero, List.set_cons_succ]
            refine wpAnyH_take (i := 6) (oi := ⟨some 18, _, _, _, _, _⟩) (v := ?_) rfl (by kernel_rfl) (by kernel_rfl) (by kernel_rfl) (fun _ _ _ h => h) (Or.inl ⟨by rfl, ?_⟩) (by assumption) ?_
            rotate_left
            focus (intro w hSw; (try dsimp only at hSw); go_simp; first | done | with_reducible rfl)
            try simp only [Act.put, List.setIfInBounds_toArray, List.set_cons_zero, List.set_cons_succ]
            refine wpAnyH_take (i := 7) (oi := ⟨some 19, _, _, _, _, _⟩) (v := ?_) rfl (by kernel_rfl) (by kernel_rfl) (by kernel_rfl) (fun _ _ _ h => h) (Or.inl ⟨by rfl, ?_⟩) (by assumption) ?_
            rotate_left
            focus (intro w hSw; (try dsimp only at hSw); go_simp; first | done | with_reducible rfl)
            try simp only [Act.put, List.setIfInBounds_toArray, List.set_cons_zero, List.set_cons_succ]
            refine wpAnyH_take (i := 8) (oi := ⟨some 20, _, _, _, _, _⟩) (v := ?_) rfl (by kernel_rfl) (by kernel_rfl) (by kernel_rfl) (fun _ _ _ h => h) (Or.inl ⟨by rfl, ?_⟩) (by assumption) ?_
            rotate_left
            focus (intro w hSw; (try dsimp only at hSw); go_simp; first | done | with_reducible rfl)
            try simp only [Act.put, List.setIfInBounds_toArray, List.set_cons_zero, List.set_cons_succ]
            refine wpAnyH_take (i := 9) (oi := ⟨some 21, _, _, _, _, _⟩) (v := ?_) rfl (by kernel_rfl) (by kernel_rfl) (by kernel_rfl) (fun _ _ _ h => h) (Or.inl ⟨by rfl, ?_⟩) (by assumption) ?_
            rotate_left
            focus (intro w hSw; (try dsimp only at hSw); go_simp; first | done | with_reducible rfl)
            try simp only [Act.put, List.setIfInBounds_toArray, List.set_cons_zero, List.set_cons_succ]
            refine wpAnyH_take (i := 10) (oi := ⟨some 22, _, _, _, _, _⟩) (v := ?_) rfl (by kernel_rfl) (by kernel_rfl) (by kernel_rfl) (fun _ _ _ h => h) (Or.inl ⟨by rfl, ?_⟩) (by assumption) ?_
            rotate_left
            focus (intro w hSw; (try dsimp only at hSw); go_simp; first | done | with_reducible rfl)
            try simp only [Act.put, List.setIfInBounds_toArray, List.set_cons_zero, List.set_cons_succ]
            refine wpAnyH_take (i := 11) (oi := ⟨some 23, _, _, _, _, _⟩) (v := ?_) rfl (by kernel_rfl) (by kernel_rfl) (by kernel_rfl) (fun _ _ _ h => h) (Or.inl ⟨by rfl, ?_⟩) (by assumption) ?_
            rotate_left
            focus (intro w hSw; (try dsimp only at hSw); go_simp; first | done | with_reducible rfl)
            try simp only [Act.put, List.setIfInBounds_toArray, List.set_cons_zero, List.set_cons_succ]
            refine wpAnyH_take (i := 12) (oi := ⟨some 24, _, _, _, _, _⟩) (v := ?_) rfl (by kernel_rfl) (by kernel_rfl) (by kernel_rfl) (fun _ _ _ h => h) (Or.inl ⟨by rfl, ?_⟩) (by assumption) ?_
            rotate_left
            focus (intro w hSw; (try dsimp only at hSw); go_simp; first | done | with_reducible rfl)
            try simp only [Act.put, List.setIfInBounds_toArray, List.set_cons_zero, List.set_cons_succ]
            refine wpAnyH_ready (rs := [13]) (by kernel_rfl) (by simp) ?_
            refine AllReadyH.cons (o := ⟨some 25, _, _, _, _, _⟩) rfl (fun K hK => ?_) AllReadyH.nil
            go_simp
            with_reducible refine (HL.out _).mono ?_; rintro e w2 ⟨rfl, hb⟩
            go_wp2_with fail
            refine hK.out _ _ (by exact ⟨Lib.hid (hHeld.1.out.trans (hb.mono hHeld.1.out.size)), keep_cell hb hHeld.2.1, keep_cell hb hHeld.2.2.1, keep_cell hb hHeld.2.2.2.1, keep_cell hb hHeld.2.2.2.2.1, keep_cell hb hHeld.2.2.2.2.2.1, keep_cell hb hHeld.2.2.2.2.2.2⟩) (fun hNew => ?_)
            clear hK K
            clear hHeld hb; have hHeld := hNew; clear hNew
            try simp only [Act.put, List.setIfInBounds_toArray, List.set_cons_zero, List.set_cons_succ]
            refine wpAnyH_take (i := 14) (oi := ⟨some 26, _, _, _, _, _⟩) (v := ?_) rfl (by kernel_rfl) (by kernel_rfl) (by kernel_rfl) (fun _ _ _ h => h) (Or.inl ⟨by rfl, ?_⟩) (by assumption) ?_
            rotate_left
            focus (intro w hSw; (try dsimp only at hSw); go_simp; first | done | with_reducible rfl)
            try simp only [Act.put, List.setIfInBounds_toArray, List.set_cons_zero, List.set_cons_succ]
            refine wpAnyH_done (by kernel_rfl) ?_ _
            obtain ⟨hq6, s0, s1, s2, u0, u1, u2⟩ := hHeld
            clear x0 x1 x2 y0 y1 y2
            go_wp2
            go_roundw
            case rel => exact ⟨k + 1, by omega, by go_num, HN.out, HI.out.trans (hq6.out.mono hzi)⟩
            case measure => simp [intOf]; omega
          · have HL := Lib.hid (fun W => less_lit L[k] l[n] false hle W)
            have HLE := Lib.hid hle
            clear hle
            generalize hgy : L[k] = y at *
            generalize hgx : l[n] = x at *
            have HGY := Lib.hid hgy
            have HGX := Lib.hid hgx
            clear hgy hgx
            go_wp2
            refine wp_region_held_drew (S := (fun w' => RowKit.Hid (Below wr.heap.size wr w') ∧ w'.cell? ⟨b, o + n * 3, none⟩ = some (.int .i64 x.a) ∧ w'.cell? ⟨b, o + n * 3 + 1, none⟩ = some (.int .i64 x.b) ∧ w'.cell? ⟨b, o + n * 3 + 2, none⟩ = some (.int .i64 x.c) ∧ w'.cell? ⟨b2, o2 + k * 3, none⟩ = some (.int .i64 y.a) ∧ w'.cell? ⟨b2, o2 + k * 3 + 1, none⟩ = some (.int .i64 y.b) ∧ w'.cell? ⟨b2, o2 + k * 3 + 2, none⟩ = some (.int .i64 y.c))) (by kernel_rfl) (by exact ⟨Lib.hid (below_drewN (Below.refl _ _) 1), x0, x1, x2, y0, y1, y2⟩) (fun hHeld => ?_)
            refine wpAnyH_take (i := 0) (oi := ⟨some 12, _, _, _, _, _⟩) (v := ?_) rfl (by kernel_rfl) (by kernel_rfl) (by kernel_rfl) (fun _ _ _ h => h) (Or.inl ⟨by rfl, ?_⟩) (by assumption) ?_
            rotate_left
            focus (intro w hSw; (try dsimp only at hSw); go_simp; first | done | with_reducible rfl)
            try simp only [Act.put, List.setIfInBounds_toArray, List.set_cons_zero, List.set_cons_succ]
            refine wpAnyH_take (i := 1) (oi := ⟨some 13, _, _, _, _, _⟩) (v := ?_) rfl (by kernel_rfl) (by kernel_rfl) (by kernel_rfl) (fun _ _ _ h => h) (Or.inl ⟨by rfl, ?_⟩) (by assumption) ?_
            rotate_left
            focus (intro w hSw; (try dsimp only at hSw); go_simp; first | done | with_reducible rfl)
            try simp only [Act.put, List.setIfInBounds_toArray, List.set_cons_zero, List.set_cons_succ]
            refine wpAnyH_take (i := 2) (oi := ⟨some 14, _, _, _, _, _⟩) (v := ?_) rfl (by kernel_rfl) (by kernel_rfl) (by kernel_rfl) (fun _ _ _ h => h) (Or.inl ⟨by rfl, ?_⟩) (by assumption) ?_
            rotate_left
            focus (intro w hSw; (try dsimp only at hSw); go_simp; first | done | with_reducible rfl)
            try simp only [Act.put, List.setIfInBounds_toArray, List.set_cons_zero, List.set_cons_succ]
            refine wpAnyH_take (i := 3) (oi := ⟨some 15, _, _, _, _, _⟩) (v := ?_) rfl (by kernel_rfl) (by kernel_rfl) (by kernel_rfl) (fun _ _ _ h => h) (Or.inl ⟨by rfl, ?_⟩) (by assumption) ?_
            rotate_left
            focus (intro w hSw; (try dsimp only at hSw); go_simp; first | done | with_reducible rfl)
            try simp only [Act.put, List.setIfInBounds_toArray, List.set_cons_zero, List.set_cons_succ]
            refine wpAnyH_take (i := 4) (oi := ⟨some 16, _, _, _, _, _⟩) (v := ?_) rfl (by kernel_rfl) (by kernel_rfl) (by kernel_rfl) (fun _ _ _ h => h) (Or.inl ⟨by rfl, ?_⟩) (by assumption) ?_
            rotate_left
            focus (intro w hSw; (try dsimp only at hSw); go_simp; first | done | with_reducible rfl)
            try simp only [Act.put, List.setIfInBounds_toArray, List.set_cons_zero, List.set_cons_succ]
            refine wpAnyH_take (i := 5) (oi := ⟨some 17, _, _, _, _, _⟩) (v := ?_) rfl (by kernel_rfl) (by kernel_rfl) (by kernel_rfl) (fun _ _ _ h => h) (Or.inl ⟨by rfl, ?_⟩) (by assumption) ?_
            rotate_left
            focus (intro w hSw; (try dsimp only at hSw); go_simp; first | done | with_reducible rfl)
            try simp only [Act.put, List.setIfInBounds_toArray, List.set_cons_zero, List.set_cons_succ]
            refine wpAnyH_take (i := 6) (oi := ⟨some 18, _, _, _, _, _⟩) (v := ?_) rfl (by kernel_rfl) (by kernel_rfl) (by kernel_rfl) (fun _ _ _ h => h) (Or.inl ⟨by rfl, ?_⟩) (by assumption) ?_
            rotate_left
            focus (intro w hSw; (try dsimp only at hSw); go_simp; first | done | with_reducible rfl)
            try simp only [Act.put, List.setIfInBounds_toArray, List.set_cons_zero, List.set_cons_succ]
            refine wpAnyH_take (i := 7) (oi := ⟨some 19, _, _, _, _, _⟩) (v := ?_) rfl (by kernel_rfl) (by kernel_rfl) (by kernel_rfl) (fun _ _ _ h => h) (Or.inl ⟨by rfl, ?_⟩) (by assumption) ?_
            rotate_left
            focus (intro w hSw; (try dsimp only at hSw); go_simp; first | done | with_reducible rfl)
            try simp only [Act.put, List.setIfInBounds_toArray, List.set_cons_zero, List.set_cons_succ]
            refine wpAnyH_take (i := 8) (oi := ⟨some 20, _, _, _, _, _⟩) (v := ?_) rfl (by kernel_rfl) (by kernel_rfl) (by kernel_rfl) (fun _ _ _ h => h) (Or.inl ⟨by rfl, ?_⟩) (by assumption) ?_
            rotate_left
            focus (intro w hSw; (try dsimp only at hSw); go_simp; first | done | with_reducible rfl)
            try simp only [Act.put, List.setIfInBounds_toArray, List.set_cons_zero, List.set_cons_succ]
            refine wpAnyH_take (i := 9) (oi := ⟨some 21, _, _, _, _, _⟩) (v := ?_) rfl (by kernel_rfl) (by kernel_rfl) (by kernel_rfl) (fun _ _ _ h => h) (Or.inl ⟨by rfl, ?_⟩) (by assumption) ?_
            rotate_left
            focus (intro w hSw; (try dsimp only at hSw); go_simp; first | done | with_reducible rfl)
            try simp only [Act.put, List.setIfInBounds_toArray, List.set_cons_zero, List.set_cons_succ]
            refine wpAnyH_take (i := 10) (oi := ⟨some 22, _, _, _, _, _⟩) (v := ?_) rfl (by kernel_rfl) (by kernel_rfl) (by kernel_rfl) (fun _ _ _ h => h) (Or.inl ⟨by rfl, ?_⟩) (by assumption) ?_
            rotate_left
            focus (intro w hSw; (try dsimp only at hSw); go_simp; first | done | with_reducible rfl)
            try simp only [Act.put, List.setIfInBounds_toArray, List.set_cons_zero, List.set_cons_succ]
            refine wpAnyH_take (i := 11) (oi := ⟨some 23, _, _, _, _, _⟩) (v := ?_) rfl (by kernel_rfl) (by kernel_rfl) (by kernel_rfl) (fun _ _ _ h => h) (Or.inl ⟨by rfl, ?_⟩) (by assumption) ?_
            rotate_left
            focus (intro w hSw; (try dsimp only at hSw); go_simp; first | done | with_reducible rfl)
            try simp only [Act.put, List.setIfInBounds_toArray, List.set_cons_zero, List.set_cons_succ]
            refine wpAnyH_take (i := 12) (oi := ⟨some 24, _, _, _, _, _⟩) (v := ?_) rfl (by kernel_rfl) (by kernel_rfl) (by kernel_rfl) (fun _ _ _ h => h) (Or.inl ⟨by rfl, ?_⟩) (by assumption) ?_
            rotate_left
            focus (intro w hSw; (try dsimp only at hSw); go_simp; first | done | with_reducible rfl)
            try simp only [Act.put, List.setIfInBounds_toArray, List.set_cons_zero, List.set_cons_succ]
            refine wpAnyH_ready (rs := [13]) (by kernel_rfl) (by simp) ?_
            refine AllReadyH.cons (o := ⟨some 25, _, _, _, _, _⟩) rfl (fun K hK => ?_) AllReadyH.nil
            go_simp
            with_reducible refine (HL.out _).mono ?_; rintro e w2 ⟨rfl, hb⟩
            go_wp2_with fail
            refine hK.out _ _ (by exact ⟨Lib.hid (hHeld.1.out.trans (hb.mono hHeld.1.out.size)), keep_cell hb hHeld.2.1, keep_cell hb hHeld.2.2.1, keep_cell hb hHeld.2.2.2.1, keep_cell hb hHeld.2.2.2.2.1, keep_cell hb hHeld.2.2.2.2.2.1, keep_cell hb hHeld.2.2.2.2.2.2⟩) (fun hNew => ?_)
            clear hK K
            clear hHeld hb; have hHeld := hNew; clear hNew
            try simp only [Act.put, List.setIfInBounds_toArray, List.set_cons_zero, List.set_cons_succ]
            refine wpAnyH_take (i := 14) (oi := ⟨some 26, _, _, _, _, _⟩) (v := ?_) rfl (by kernel_rfl) (by kernel_rfl) (by kernel_rfl) (fun _ _ _ h => h) (Or.inl ⟨by rfl, ?_⟩) (by assumption) ?_
            rotate_left
            focus (intro w hSw; (try dsimp only at hSw); go_simp; first | done | with_reducible rfl)
            try simp only [Act.put, List.setIfInBounds_toArray, List.set_cons_zero, List.set_cons_succ]
            refine wpAnyH_done (by kernel_rfl) ?_ _
            obtain ⟨hq6, s0, s1, s2, u0, u1, u2⟩ := hHeld
            clear x0 x1 x2 y0 y1 y2
            have d2 : ((k : Int) == (L.length : Int)) = false := by simp; omega
            go_wp2
            by_cases hxy : y = x
            · have HGX2 := HGX.out
              subst hxy
              refine wp_region_held_drew (S := (fun w' => RowKit.Hid (Below wr.heap.size wr w') ∧ w'.cell? ⟨b, o + n * 3, none⟩ = some (.int .i64 y.a) ∧ w'.cell? ⟨b, o + n * 3 + 1, none⟩ = some (.int .i64 y.b) ∧ w'.cell? ⟨b, o + n * 3 + 2, none⟩ = some (.int .i64 y.c) ∧ w'.cell? ⟨b2, o2 + k * 3, none⟩ = some (.int .i64 y.a) ∧ w'.cell? ⟨b2, o2 + k * 3 + 1, none⟩ = some (.int .i64 y.b) ∧ w'.cell? ⟨b2, o2 + k * 3 + 2, none⟩ = some (.int .i64 y.c))) (by kernel_rfl) (by exact ⟨Lib.hid (below_drewN hq6.out 1), s0, s1, s2, u0, u1, u2⟩) (fun hHeld => ?_)
              refine wpAnyH_take (i := 0) (oi := ⟨some 29, _, _, _, _, _⟩) (v := ?_) rfl (by kernel_rfl) (by kernel_rfl) (by kernel_rfl) (fun _ _ _ h => h) (Or.inl ⟨by rfl, ?_⟩) (by assumption) ?_
              rotate_left
              focus (intro w hSw; (try dsimp only at hSw); go_simp; first | done | with_reducible rfl)
              try simp only [Act.put, List.setIfInBounds_toArray, List.set_cons_zero, List.set_cons_succ]
              refine wpAnyH_take (i := 1) (oi := ⟨some 30, _, _, _, _, _⟩) (v := ?_) rfl (by kernel_rfl) (by kernel_rfl) (by kernel_rfl) (fun _ _ _ h => h) (Or.inl ⟨by rfl, ?_⟩) (by assumption) ?_
              rotate_left
              focus (intro w hSw; (try dsimp only at hSw); go_simp; first | done | with_reducible rfl)
              try simp only [Act.put, List.setIfInBounds_toArray, List.set_cons_zero, List.set_cons_succ]
              refine wpAnyH_take (i := 2) (oi := ⟨some 31, _, _, _, _, _⟩) (v := ?_) rfl (by kernel_rfl) (by kernel_rfl) (by kernel_rfl) (fun _ _ _ h => h) (Or.inl ⟨by rfl, ?_⟩) (by assumption) ?_
              rotate_left
              focus (intro w hSw; (try dsimp only at hSw); go_simp; first | done | with_reducible rfl)
              try simp only [Act.put, List.setIfInBounds_toArray, List.set_cons_zero, List.set_cons_succ]
              refine wpAnyH_take (i := 3) (oi := ⟨some 32, _, _, _, _, _⟩) (v := ?_) rfl (by kernel_rfl) (by kernel_rfl) (by kernel_rfl) (fun _ _ _ h => h) (Or.inl ⟨by rfl, ?_⟩) (by assumption) ?_
              rotate_left
              focus (intro w hSw; (try dsimp only at hSw); go_simp; first | done | with_reducible rfl)
              try simp only [Act.put, List.setIfInBounds_toArray, List.set_cons_zero, List.set_cons_succ]
              refine wpAnyH_take (i := 4) (oi := ⟨some 33, _, _, _, _, _⟩) (v := ?_) rfl (by kernel_rfl) (by kernel_rfl) (by kernel_rfl) (fun _ _ _ h => h) (Or.inl ⟨by rfl, ?_⟩) (by assumption) ?_
              rotate_left
              focus (intro w hSw; (try dsimp only at hSw); go_simp; first | done | with_reducible rfl)
              try simp only [Act.put, List.setIfInBounds_toArray, List.set_cons_zero, List.set_cons_succ]
              refine wpAnyH_take (i := 5) (oi := ⟨some 34, _, _, _, _, _⟩) (v := ?_) rfl (by kernel_rfl) (by kernel_rfl) (by kernel_rfl) (fun _ _ _ h => h) (Or.inl ⟨by rfl, ?_⟩) (by assumption) ?_
              rotate_left
              focus (intro w hSw; (try dsimp only at hSw); go_simp; first | done | with_reducible rfl)
              try simp only [Act.put, List.setIfInBounds_toArray, List.set_cons_zero, List.set_cons_succ]
              refine wpAnyH_take (i := 6) (oi := ⟨some 35, _, _, _, _, _⟩) (v := ?_) rfl (by kernel_rfl) (by kernel_rfl) (by kernel_rfl) (fun _ _ _ h => h) (Or.inl ⟨by rfl, ?_⟩) (by assumption) ?_
              rotate_left
              focus (intro w hSw; (try dsimp only at hSw); go_simp; first | done | with_reducible rfl)
              try simp only [Act.put, List.setIfInBounds_toArray, List.set_cons_zero, List.set_cons_succ]
              refine wpAnyH_take (i := 7) (oi := ⟨some 36, _, _, _, _, _⟩) (v := ?_) rfl (by kernel_rfl) (by kernel_rfl) (by kernel_rfl) (fun _ _ _ h => h) (Or.inl ⟨by rfl, ?_⟩) (by assumption) ?_
              rotate_left
              focus (intro w hSw; (try dsimp only at hSw); go_simp; first | done | with_reducible rfl)
              try simp only [Act.put, List.setIfInBounds_toArray, List.set_cons_zero, List.set_cons_succ]
              refine wpAnyH_take (i := 8) (oi := ⟨some 37, _, _, _, _, _⟩) (v := ?_) rfl (by kernel_rfl) (by kernel_rfl) (by kernel_rfl) (fun _ _ _ h => h) (Or.inl ⟨by rfl, ?_⟩) (by assumption) ?_
              rotate_left
              focus (intro w hSw; (try dsimp only at hSw); go_simp; first | done | with_reducible rfl)
              try simp only [Act.put, List.setIfInBounds_toArray, List.set_cons_zero, List.set_cons_succ]
              refine wpAnyH_take (i := 9) (oi := ⟨some 38, _, _, _, _, _⟩) (v := ?_) rfl (by kernel_rfl) (by kernel_rfl) (by kernel_rfl) (fun _ _ _ h => h) (Or.inl ⟨by rfl, ?_⟩) (by assumption) ?_
              rotate_left
              focus (intro w hSw; (try dsimp only at hSw); go_simp; first | done | with_reducible rfl)
              try simp only [Act.put, List.setIfInBounds_toArray, List.set_cons_zero, List.set_cons_succ]
              refine wpAnyH_take (i := 10) (oi := ⟨some 39, _, _, _, _, _⟩) (v := ?_) rfl (by kernel_rfl) (by kernel_rfl) (by kernel_rfl) (fun _ _ _ h => h) (Or.inl ⟨by rfl, ?_⟩) (by assumption) ?_
              rotate_left
              focus (intro w hSw; (try dsimp only at hSw); go_simp; first | done | with_reducible rfl)
              try simp only [Act.put, List.setIfInBounds_toArray, List.set_cons_zero, List.set_cons_succ]
              refine wpAnyH_take (i := 11) (oi := ⟨some 40, _, _, _, _, _⟩) (v := ?_) rfl (by kernel_rfl) (by kernel_rfl) (by kernel_rfl) (fun _ _ _ h => h) (Or.inl ⟨by rfl, ?_⟩) (by assumption) ?_
              rotate_left
              focus (intro w hSw; (try dsimp only at hSw); go_simp; first | done | with_reducible rfl)
              try simp only [Act.put, List.setIfInBounds_toArray, List.set_cons_zero, List.set_cons_succ]
              refine wpAnyH_take (i := 12) (oi := ⟨some 41, _, _, _, _, _⟩) (v := ?_) rfl (by kernel_rfl) (by kernel_rfl) (by kernel_rfl) (fun _ _ _ h => h) (Or.inl ⟨by rfl, ?_⟩) (by assumption) ?_
              rotate_left
              focus (intro w hSw; (try dsimp only at hSw); go_simp; first | done | with_reducible rfl)
              try simp only [Act.put, List.setIfInBounds_toArray, List.set_cons_zero, List.set_cons_succ]
              refine wpAnyH_take (i := 13) (oi := ⟨some 42, _, _, _, _, _⟩) (v := ?_) rfl (by kernel_rfl) (by kernel_rfl) (by kernel_rfl) (fun _ _ _ h => h) (Or.inl ⟨by rfl, ?_⟩) (by assumption) ?_
              rotate_left
              focus (intro w hSw; (try dsimp only at hSw); go_simp; first | done | with_reducible rfl)
              try simp only [Act.put, List.setIfInBounds_toArray, List.set_cons_zero, List.set_cons_succ]
              refine wpAnyH_take (i := 14) (oi := ⟨some 43, _, _, _, _, _⟩) (v := ?_) rfl (by kernel_rfl) (by kernel_rfl) (by kernel_rfl) (fun _ _ _ h => h) (Or.inl ⟨by rfl, ?_⟩) (by assumption) ?_
              rotate_left
              focus (intro w hSw; (try dsimp only at hSw); go_simp; first | done | with_reducible rfl)
              try simp only [Act.put, List.setIfInBounds_toArray, List.set_cons_zero, List.set_cons_succ]
              refine wpAnyH_done (by kernel_rfl) ?_ _
              go_wp2
              have hBz := HI.out.trans (hq6.out.mono hzi)
              have hBy := below_drewN hBz 1
              clear hBz
              go_roundw
              case rel => exact ⟨n + 1, L, by omega, by go_num, own_below HO.out hBy, HUp.out, mem_same hlt HM.out HGX2 hkl HGY.out, by omega, HB.out.trans (hBy.mono HB.out.size)⟩
              case measure => simp [intOf]; omega
            · have HNE := Lib.hid hxy
              clear hxy
              refine wp_region_held_drew (S := (fun w' => RowKit.Hid (Below wr.heap.size wr w') ∧ w'.cell? ⟨b, o + n * 3, none⟩ = some (.int .i64 x.a) ∧ w'.cell? ⟨b, o + n * 3 + 1, none⟩ = some (.int .i64 x.b) ∧ w'.cell? ⟨b, o + n * 3 + 2, none⟩ = some (.int .i64 x.c) ∧ w'.cell? ⟨b2, o2 + k * 3, none⟩ = some (.int .i64 y.a) ∧ w'.cell? ⟨b2, o2 + k * 3 + 1, none⟩ = some (.int .i64 y.b) ∧ w'.cell? ⟨b2, o2 + k * 3 + 2, none⟩ = some (.int .i64 y.c))) (by kernel_rfl) (by exact ⟨Lib.hid (below_drewN hq6.out 1), s0, s1, s2, u0, u1, u2⟩) (fun hHeld => ?_)
              refine wpAnyH_take (i := 0) (oi := ⟨some 29, _, _, _, _, _⟩) (v := ?_) rfl (by kernel_rfl) (by kernel_rfl) (by kernel_rfl) (fun _ _ _ h => h) (Or.inl ⟨by rfl, ?_⟩) (by assumption) ?_
              rotate_left
              focus (intro w hSw; (try dsimp only at hSw); go_simp; first | done | with_reducible rfl)
              try simp only [Act.put, List.setIfInBounds_toArray, List.set_cons_zero, List.set_cons_succ]
              refine wpAnyH_take (i := 1) (oi := ⟨some 30, _, _, _, _, _⟩) (v := ?_) rfl (by kernel_rfl) (by kernel_rfl) (by kernel_rfl) (fun _ _ _ h => h) (Or.inl ⟨by rfl, ?_⟩) (by assumption) ?_
              rotate_left
              focus (intro w hSw; (try dsimp only at hSw); go_simp; first | done | with_reducible rfl)
              try simp only [Act.put, List.setIfInBounds_toArray, List.set_cons_zero, List.set_cons_succ]
              refine wpAnyH_take (i := 2) (oi := ⟨some 31, _, _, _, _, _⟩) (v := ?_) rfl (by kernel_rfl) (by kernel_rfl) (by kernel_rfl) (fun _ _ _ h => h) (Or.inl ⟨by rfl, ?_⟩) (by assumption) ?_
              rotate_left
              focus (intro w hSw; (try dsimp only at hSw); go_simp; first | done | with_reducible rfl)
              try simp only [Act.put, List.setIfInBounds_toArray, List.set_cons_zero, List.set_cons_succ]
              refine wpAnyH_take (i := 3) (oi := ⟨some 32, _, _, _, _, _⟩) (v := ?_) rfl (by kernel_rfl) (by kernel_rfl) (by kernel_rfl) (fun _ _ _ h => h) (Or.inl ⟨by rfl, ?_⟩) (by assumption) ?_
              rotate_left
              focus (intro w hSw; (try dsimp only at hSw); go_simp; first | done | with_reducible rfl)
              try simp only [Act.put, List.setIfInBounds_toArray, List.set_cons_zero, List.set_cons_succ]
              refine wpAnyH_take (i := 4) (oi := ⟨some 33, _, _, _, _, _⟩) (v := ?_) rfl (by kernel_rfl) (by kernel_rfl) (by kernel_rfl) (fun _ _ _ h => h) (Or.inl ⟨by rfl, ?_⟩) (by assumption) ?_
              rotate_left
              focus (intro w hSw; (try dsimp only at hSw); go_simp; first | done | with_reducible rfl)
              try simp only [Act.put, List.setIfInBounds_toArray, List.set_cons_zero, List.set_cons_succ]
              refine wpAnyH_take (i := 5) (oi := ⟨some 34, _, _, _, _, _⟩) (v := ?_) rfl (by kernel_rfl) (by kernel_rfl) (by kernel_rfl) (fun _ _ _ h => h) (Or.inl ⟨by rfl, ?_⟩) (by assumption) ?_
              rotate_left
              focus (intro w hSw; (try dsimp only at hSw); go_simp; first | done | with_reducible rfl)
              try simp only [Act.put, List.setIfInBounds_toArray, List.set_cons_zero, List.set_cons_succ]
              refine wpAnyH_take (i := 6) (oi := ⟨some 35, _, _, _, _, _⟩) (v := ?_) rfl (by kernel_rfl) (by kernel_rfl) (by kernel_rfl) (fun _ _ _ h => h) (Or.inl ⟨by rfl, ?_⟩) (by assumption) ?_
              rotate_left
              focus (intro w hSw; (try dsimp only at hSw); go_simp; first | done | with_reducible rfl)
              try simp only [Act.put, List.setIfInBounds_toArray, List.set_cons_zero, List.set_cons_succ]
              refine wpAnyH_take (i := 7) (oi := ⟨some 36, _, _, _, _, _⟩) (v := ?_) rfl (by kernel_rfl) (by kernel_rfl) (by kernel_rfl) (fun _ _ _ h => h) (Or.inl ⟨by rfl, ?_⟩) (by assumption) ?_
              rotate_left
              focus (intro w hSw; (try dsimp only at hSw); go_simp; first | done | with_reducible rfl)
              try simp only [Act.put, List.setIfInBounds_toArray, List.set_cons_zero, List.set_cons_succ]
              refine wpAnyH_take (i := 8) (oi := ⟨some 37, _, _, _, _, _⟩) (v := ?_) rfl (by kernel_rfl) (by kernel_rfl) (by kernel_rfl) (fun _ _ _ h => h) (Or.inl ⟨by rfl, ?_⟩) (by assumption) ?_
              rotate_left
              focus (intro w hSw; (try dsimp only at hSw); go_simp; first | done | with_reducible rfl)
              try simp only [Act.put, List.setIfInBounds_toArray, List.set_cons_zero, List.set_cons_succ]
              refine wpAnyH_take (i := 9) (oi := ⟨some 38, _, _, _, _, _⟩) (v := ?_) rfl (by kernel_rfl) (by kernel_rfl) (by kernel_rfl) (fun _ _ _ h => h) (Or.inl ⟨by rfl, ?_⟩) (by assumption) ?_
              rotate_left
              focus (intro w hSw; (try dsimp only at hSw); go_simp; first | done | with_reducible rfl)
              try simp only [Act.put, List.setIfInBounds_toArray, List.set_cons_zero, List.set_cons_succ]
              refine wpAnyH_take (i := 10) (oi := ⟨some 39, _, _, _, _, _⟩) (v := ?_) rfl (by kernel_rfl) (by kernel_rfl) (by kernel_rfl) (fun _ _ _ h => h) (Or.inl ⟨by rfl, ?_⟩) (by assumption) ?_
              rotate_left
              focus (intro w hSw; (try dsimp only at hSw); go_simp; first | done | with_reducible rfl)
              try simp only [Act.put, List.setIfInBounds_toArray, List.set_cons_zero, List.set_cons_succ]
              refine wpAnyH_take (i := 11) (oi := ⟨some 40, _, _, _, _, _⟩) (v := ?_) rfl (by kernel_rfl) (by kernel_rfl) (by kernel_rfl) (fun _ _ _ h => h) (Or.inl ⟨by rfl, ?_⟩) (by assumption) ?_
              rotate_left
              focus (intro w hSw; (try dsimp only at hSw); go_simp; first | done | with_reducible rfl)
              try simp only [Act.put, List.setIfInBounds_toArray, List.set_cons_zero, List.set_cons_succ]
              refine wpAnyH_take (i := 12) (oi := ⟨some 41, _, _, _, _, _⟩) (v := ?_) rfl (by kernel_rfl) (by kernel_rfl) (by kernel_rfl) (fun _ _ _ h => h) (Or.inl ⟨by rfl, ?_⟩) (by assumption) ?_
              rotate_left
              focus (intro w hSw; (try dsimp only at hSw); go_simp; first | done | with_reducible rfl)
              try simp only [Act.put, List.setIfInBounds_toArray, List.set_cons_zero, List.set_cons_succ]
              refine wpAnyH_take (i := 13) (oi := ⟨some 42, _, _, _, _, _⟩) (v := ?_) rfl (by kernel_rfl) (by kernel_rfl) (by kernel_rfl) (fun _ _ _ h => h) (Or.inl ⟨by rfl, ?_⟩) (by assumption) ?_
              rotate_left
              focus (intro w hSw; (try dsimp only at hSw); go_simp; exact ite_ne HNE.out _ _)
              try simp only [Act.put, List.setIfInBounds_toArray, List.set_cons_zero, List.set_cons_succ]
              refine wpAnyH_take (i := 14) (oi := ⟨some 43, _, _, _, _, _⟩) (v := ?_) rfl (by kernel_rfl) (by kernel_rfl) (by kernel_rfl) (fun _ _ _ h => h) (Or.inl ⟨by rfl, ?_⟩) (by assumption) ?_
              rotate_left
              focus (intro w hSw; (try dsimp only at hSw); go_simp; first | done | with_reducible rfl)
              try simp only [Act.put, List.setIfInBounds_toArray, List.set_cons_zero, List.set_cons_succ]
              refine wpAnyH_done (by kernel_rfl) ?_ _
              go_wp2
              clear hHeld
              have hBz : Below wq.heap.size wq w2.drew := below_drewN (HI.out.trans (hq6.out.mono hzi)) 1
              have hkc : k ≤ c2 := by omega
              have HUP : RowKit.Hid (Sv.Up ([] ++ L.take k ++ [x] ++ L.drop k)) := Lib.hid (by rw [List.nil_append]; exact Sv.up_put HUp.out hk HALL.out (fun hk2 => by rw [HGY.out]; exact ⟨HLE.out, HNE.out⟩))
              have hck : ¬ c2 = k := by omega
              obtain ⟨wz, hwz⟩ : ∃ wz, wz = w2.drew := ⟨_, rfl⟩
              rw [← hwz] at hBz ⊢
              have hBz2 := below_drewN hBz 1
              clear hwz hBz
              refine wp_region_held_drew (S := (fun w' => RowKit.Hid (Below wq.heap.size wq w') ∧ w'.cell? ⟨b, o + n * 3, none⟩ = some (.int .i64 x.a) ∧ w'.cell? ⟨b, o + n * 3 + 1, none⟩ = some (.int .i64 x.b) ∧ w'.cell? ⟨b, o + n * 3 + 2, none⟩ = some (.int .i64 x.c))) (by kernel_rfl) (by exact ⟨Lib.hid hBz2, (HA.out.below hBz2 hxw).1, (HA.out.below hBz2 hxw).2.1, (HA.out.below hBz2 hxw).2.2⟩) (fun hHeld => ?_)
              change Below wq.heap.size wq wz.drew at hBz2
              generalize wz.drew = W0 at *
              have HB0 := Lib.hid hBz2
              clear hBz2
              have HBc := HB0
              clear HB0
              refine wpAnyH_take (i := 1) (oi := ⟨some 45, _, _, _, _, _⟩) (v := ?_) rfl (by kernel_rfl) (by kernel_rfl) (by kernel_rfl) (fun _ _ _ h => h) (Or.inl ⟨by rfl, ?_⟩) (by assumption) ?_
              rotate_left
              focus (intro w hSw; (try dsimp only at hSw); go_simp; first | done | with_reducible rfl)
              try simp only [Act.put, List.setIfInBounds_toArray, List.set_cons_zero, List.set_cons_succ]
              refine wpAnyH_take (i := 2) (oi := ⟨some 46, _, _, _, _, _⟩) (v := ?_) rfl (by kernel_rfl) (by kernel_rfl) (by kernel_rfl) (fun _ _ _ h => h) (Or.inl ⟨by rfl, ?_⟩) (by assumption) ?_
              rotate_left
              focus (intro w hSw; (try dsimp only at hSw); go_simp; first | done | with_reducible rfl)
              try simp only [Act.put, List.setIfInBounds_toArray, List.set_cons_zero, List.set_cons_succ]
              refine wpAnyH_take (i := 3) (oi := ⟨some 47, _, _, _, _, _⟩) (v := ?_) rfl (by kernel_rfl) (by kernel_rfl) (by kernel_rfl) (fun _ _ _ h => h) (Or.inl ⟨by rfl, ?_⟩) (by assumption) ?_
              rotate_left
              focus (intro w hSw; (try dsimp only at hSw); go_simp; first | done | with_reducible rfl)
              try simp only [Act.put, List.setIfInBounds_toArray, List.set_cons_zero, List.set_cons_succ]
              refine wpAnyH_take (i := 5) (oi := ⟨some 49, _, _, _, _, _⟩) (v := ?_) rfl (by kernel_rfl) (by kernel_rfl) (by kernel_rfl) (fun _ _ _ h => h) (Or.inl ⟨by rfl, ?_⟩) (by assumption) ?_
              rotate_left
              focus (intro w hSw; (try dsimp only at hSw); go_simp; first | done | with_reducible rfl)
              try simp only [Act.put, List.setIfInBounds_toArray, List.set_cons_zero, List.set_cons_succ]
              refine wpAnyH_take (i := 6) (oi := ⟨some 50, _, _, _, _, _⟩) (v := ?_) rfl (by kernel_rfl) (by kernel_rfl) (by kernel_rfl) (fun _ _ _ h => h) (Or.inl ⟨by rfl, ?_⟩) (by assumption) ?_
              rotate_left
              focus (intro w hSw; (try dsimp only at hSw); go_simp; first | done | with_reducible rfl)
              try simp only [Act.put, List.setIfInBounds_toArray, List.set_cons_zero, List.set_cons_succ]
              refine wpAnyH_take (i := 7) (oi := ⟨some 51, _, _, _, _, _⟩) (v := ?_) rfl (by kernel_rfl) (by kernel_rfl) (by kernel_rfl) (fun _ _ _ h => h) (Or.inl ⟨by rfl, ?_⟩) (by assumption) ?_
              rotate_left
              focus (intro w hSw; (try dsimp only at hSw); go_simp; first | done | with_reducible rfl)
              try simp only [Act.put, List.setIfInBounds_toArray, List.set_cons_zero, List.set_cons_succ]
              refine wpAnyH_take (i := 8) (oi := ⟨some 52, _, _, _, _, _⟩) (v := ?_) rfl (by kernel_rfl) (by kernel_rfl) (by kernel_rfl) (fun _ _ _ h => h) (Or.inl ⟨by rfl, ?_⟩) (by assumption) ?_
              rotate_left
              focus (intro w hSw; (try dsimp only at hSw); go_simp; first | done | with_reducible rfl)
              try simp only [Act.put, List.setIfInBounds_toArray, List.set_cons_zero, List.set_cons_succ]
              refine wpAnyH_take (i := 11) (oi := ⟨some 55, _, _, _, _, _⟩) (v := ?_) rfl (by kernel_rfl) (by kernel_rfl) (by kernel_rfl) (fun _ _ _ h => h) (Or.inl ⟨by rfl, ?_⟩) (by assumption) ?_
              rotate_left
              focus (intro w hSw; (try dsimp only at hSw); go_simp; first | done | with_reducible rfl)
              try simp only [Act.put, List.setIfInBounds_toArray, List.set_cons_zero, List.set_cons_succ]
              refine wpAnyH_take (i := 12) (oi := ⟨some 56, _, _, _, _, _⟩) (v := ?_) rfl (by kernel_rfl) (by kernel_rfl) (by kernel_rfl) (fun _ _ _ h => h) (Or.inl ⟨by rfl, ?_⟩) (by assumption) ?_
              rotate_left
              focus (intro w hSw; (try dsimp only at hSw); go_simp; first | done | with_reducible rfl)
              try simp only [Act.put, List.setIfInBounds_toArray, List.set_cons_zero, List.set_cons_succ]
              refine wpAnyH_take (i := 13) (oi := ⟨some 57, _, _, _, _, _⟩) (v := ?_) rfl (by kernel_rfl) (by kernel_rfl) (by kernel_rfl) (fun _ _ _ h => h) (Or.inl ⟨by rfl, ?_⟩) (by assumption) ?_
              rotate_left
              focus (intro w hSw; (try dsimp only at hSw); go_simp; first | done | with_reducible rfl)
              try simp only [Act.put, List.setIfInBounds_toArray, List.set_cons_zero, List.set_cons_succ]
              refine wpAnyH_ready (rs := [0, 9]) (by kernel_rfl) (by simp) ?_
              refine AllReadyH.cons (o := ⟨some 44, _, _, _, _, _⟩) rfl (fun K hK => ?_) ?_
              focus
                go_simp
                have hBn := HBc.out.alloc HBc.out.size (.cells #[] 23)
                have hOn := own_base (own_empty W0) HBc.out.size
                try simp only [World.size_alloc] at hOn
                refine hK.out _ _ (by exact ⟨Lib.hid hBn, (HA.out.below hBn hxw).1, (HA.out.below hBn hxw).2.1, (HA.out.below hBn hxw).2.2⟩) (fun hNew => ?_)
                clear hK K hHeld; have hHeld := hNew; clear hNew
                have HBn := Lib.hid hBn; clear hBn HBc; have HBc := HBn; clear HBn
                have HOWN := Lib.hid hOn
                clear hOn
                try simp only [Act.put, List.setIfInBounds_toArray, List.set_cons_zero, List.set_cons_succ]
                refine wpAnyH_ready (rs := [4, 9]) (by kernel_rfl) (by simp) ?_
                refine AllReadyH.cons (o := ⟨some 48, _, _, _, _, _⟩) rfl (fun K hK => ?_) ?_
                focus
                  obtain ⟨v1, W2, hu1, own1, hBn, hk1, hz1, hat1⟩ := append_step wq (W0.alloc (.cells #[] 23)) _ (.slice (some ⟨b2, o2, none⟩) k c2) [] (L.take k) HBc.out HOWN.out ((VRow.take HR2.out hk).below HBc.out) (by simp <;> omega)
                  have HOWN2 := Lib.hid own1
                  clear HOWN own1
                  have HOWN := HOWN2
                  clear HOWN2
                  clear hk1 hz1 hat1
                  refine step_run_append rfl _ _ rfl rfl (by rfl) (by rfl) hu1 ?_
                  refine hK.out _ _ (by exact ⟨Lib.hid hBn, (HA.out.below hBn hxw).1, (HA.out.below hBn hxw).2.1, (HA.out.below hBn hxw).2.2⟩) (fun hNew => ?_)
                  clear hK K hHeld; have hHeld := hNew; clear hNew
                  have HBn := Lib.hid hBn; clear hBn HBc; have HBc := HBn; clear HBn
                  clear hu1
                  try simp only [Act.put, List.setIfInBounds_toArray, List.set_cons_zero, List.set_cons_succ]
                  refine wpAnyH_ready (rs := [9]) (by kernel_rfl) (by simp) ?_
                  refine AllReadyH.cons (o := ⟨some 53, _, _, _, _, _⟩) rfl (fun K hK => ?_) AllReadyH.nil
                  go_simp
                  have hBn := HBc.out.alloc HBc.out.size (.cells #[.int .i64 x.a, .int .i64 x.b, .int .i64 x.c] 23)
                  have hX := hb_new W2 (.cells #[.int .i64 x.a, .int .i64 x.b, .int .i64 x.c] 23)
                  try simp only [World.size_alloc] at hX
                  refine hK.out _ _ (by exact ⟨Lib.hid hBn, (HA.out.below hBn hxw).1, (HA.out.below hBn hxw).2.1, (HA.out.below hBn hxw).2.2⟩) (fun hNew => ?_)
                  clear hK K hHeld; have hHeld := hNew; clear hNew
                  have HBn := Lib.hid hBn; clear hBn HBc; have HBc := HBn; clear HBn
                  have HX := Lib.hid hX
                  clear hX
                  have HOWN2 := Lib.hid (HOWN.out.alloc (.cells #[.int .i64 x.a, .int .i64 x.b, .int .i64 x.c] 23))
                  clear HOWN
                  have HOWN := HOWN2
                  clear HOWN2
                  try simp only [Act.put, List.setIfInBounds_toArray, List.set_cons_zero, List.set_cons_succ]
                  refine wpAnyH_ready (rs := [10]) (by kernel_rfl) (by simp) ?_
                  refine AllReadyH.cons (o := ⟨some 54, _, _, _, _, _⟩) rfl (fun K hK => ?_) AllReadyH.nil
                  obtain ⟨v2, W4, hu2, own2, hBn, _, _, _⟩ := append_step wq (W2.alloc (.cells #[.int .i64 x.a, .int .i64 x.b, .int .i64 x.c] 23)) v1 (.slice (some ⟨W2.heap.size, 0, none⟩) 1 1) ([] ++ L.take k) [x] HBc.out HOWN.out (VRow.one HX.out) (by simp <;> omega)
                  have HOWN2 := Lib.hid own2
                  clear HOWN own2
                  have HOWN := HOWN2
                  clear HOWN2
                  refine step_run_append rfl _ _ rfl rfl (by rfl) (by rfl) hu2 ?_
                  refine hK.out _ _ (by exact ⟨Lib.hid hBn, (HA.out.below hBn hxw).1, (HA.out.below hBn hxw).2.1, (HA.out.below hBn hxw).2.2⟩) (fun hNew => ?_)
                  clear hK K hHeld; have hHeld := hNew; clear hNew
                  have HBn := Lib.hid hBn; clear hBn HBc; have HBc := HBn; clear HBn
                  clear hu2
                  try simp only [Act.put, List.setIfInBounds_toArray, List.set_cons_zero, List.set_cons_succ]
                  refine wpAnyH_ready (rs := [14]) (by kernel_rfl) (by simp) ?_
                  refine AllReadyH.cons (o := ⟨some 58, _, _, _, _, _⟩) rfl (fun K hK => ?_) AllReadyH.nil
                  obtain ⟨v3, W5, hu3, own3, hBn, _, _, _⟩ := append_step wq W4 v2 (.slice (some ⟨b2, o2 + k * 3, none⟩) (L.length - k) (c2 - k)) ([] ++ L.take k ++ [x]) (L.drop k) HBc.out HOWN.out ((VRow.drop HR2.out).below HBc.out) (by simp <;> omega)
                  have HOWN2 := Lib.hid own3
                  clear HOWN own3
                  have HOWN := HOWN2
                  clear HOWN2
                  refine step_run_append rfl _ _ rfl rfl (by rfl) (by rfl) hu3 ?_
                  refine hK.out _ _ (by exact ⟨Lib.hid hBn, (HA.out.below hBn hxw).1, (HA.out.below hBn hxw).2.1, (HA.out.below hBn hxw).2.2⟩) (fun hNew => ?_)
                  clear hK K hHeld; have hHeld := hNew; clear hNew
                  have HBn := Lib.hid hBn; clear hBn HBc; have HBc := HBn; clear HBn
                  clear hu3
                  try simp only [Act.put, List.setIfInBounds_toArray, List.set_cons_zero, List.set_cons_succ]
                  refine wpAnyH_take (i := 15) (oi := ⟨some 3, _, _, _, _, _⟩) (v := ?_) rfl (by kernel_rfl) (by kernel_rfl) (by kernel_rfl) (fun _ _ _ h => h) (Or.inl ⟨by rfl, ?_⟩) (by assumption) ?_
                  rotate_left
                  focus (intro w hSw; (try dsimp only at hSw); go_simp; first | done | with_reducible rfl)
                  try simp only [Act.put, List.setIfInBounds_toArray, List.set_cons_zero, List.set_cons_succ]
                  refine wpAnyH_done (by kernel_rfl) ?_ _
                  go_wp2
                  go_roundw
                  case rel => exact ⟨n + 1, [] ++ L.take k ++ [x] ++ L.drop k, by omega, by go_num, own_base HOWN.out HB.out.size, HUP.out, mem_more2 hlt HM.out HGX.out, by simp <;> omega, HB.out.trans (HBc.out.mono HB.out.size)⟩
                  case measure => simp [intOf]; omega
                refine AllReadyH.cons (o := ⟨some 53, _, _, _, _, _⟩) rfl (fun K hK => ?_) AllReadyH.nil
                go_simp
                have hBn := HBc.out.alloc HBc.out.size (.cells #[.int .i64 x.a, .int .i64 x.b, .int .i64 x.c] 23)
                have hX := hb_new (W0.alloc (.cells #[] 23)) (.cells #[.int .i64 x.a, .int .i64 x.b, .int .i64 x.c] 23)
                try simp only [World.size_alloc] at hX
                refine hK.out _ _ (by exact ⟨Lib.hid hBn, (HA.out.below hBn hxw).1, (HA.out.below hBn hxw).2.1, (HA.out.below hBn hxw).2.2⟩) (fun hNew => ?_)
                clear hK K hHeld; have hHeld := hNew; clear hNew
                have HBn := Lib.hid hBn; clear hBn HBc; have HBc := HBn; clear HBn
                have HX := Lib.hid hX
                clear hX
                have HOWN2 := Lib.hid (HOWN.out.alloc (.cells #[.int .i64 x.a, .int .i64 x.b, .int .i64 x.c] 23))
                clear HOWN
                have HOWN := HOWN2
                clear HOWN2
                have hne : Value.ownBlock (.slice (some ⟨W0.heap.size, 0, none⟩) 0 0) ≠ some (W0.heap.size + 1) := by simp [Value.ownBlock]
                try simp only [Act.put, List.setIfInBounds_toArray, List.set_cons_zero, List.set_cons_succ]
                refine wpAnyH_ready (rs := [4]) (by kernel_rfl) (by simp) ?_
                refine AllReadyH.cons (o := ⟨some 48, _, _, _, _, _⟩) rfl (fun K hK => ?_) AllReadyH.nil
                obtain ⟨v1, W2, hu1, own1, hBn, hk1, hz1, hat1⟩ := append_step wq ((W0.alloc (.cells #[] 23)).alloc (.cells #[.int .i64 x.a, .int .i64 x.b, .int .i64 x.c] 23)) _ (.slice (some ⟨b2, o2, none⟩) k c2) [] (L.take k) HBc.out HOWN.out ((VRow.take HR2.out hk).below HBc.out) (by simp <;> omega)
                have HOWN2 := Lib.hid own1
                clear HOWN own1
                have HOWN := HOWN2
                clear HOWN2
                have HX2 := Lib.hid (hk1 _ _ HX.out hne)
                clear HX hne
                have HX := HX2
                clear HX2
                clear hk1 hz1 hat1
                refine step_run_append rfl _ _ rfl rfl (by rfl) (by rfl) hu1 ?_
                refine hK.out _ _ (by exact ⟨Lib.hid hBn, (HA.out.below hBn hxw).1, (HA.out.below hBn hxw).2.1, (HA.out.below hBn hxw).2.2⟩) (fun hNew => ?_)
                clear hK K hHeld; have hHeld := hNew; clear hNew
                have HBn := Lib.hid hBn; clear hBn HBc; have HBc := HBn; clear HBn
                clear hu1
                try simp only [Act.put, List.setIfInBounds_toArray, List.set_cons_zero, List.set_cons_succ]
                refine wpAnyH_ready (rs := [10]) (by kernel_rfl) (by simp) ?_
                refine AllReadyH.cons (o := ⟨some 54, _, _, _, _, _⟩) rfl (fun K hK => ?_) AllReadyH.nil
                obtain ⟨v2, W4, hu2, own2, hBn, _, _, _⟩ := append_step wq W2 v1 (.slice (some ⟨W0.heap.size + 1, 0, none⟩) 1 1) ([] ++ L.take k) [x] HBc.out HOWN.out (VRow.one HX.out) (by simp <;> omega)
                have HOWN2 := Lib.hid own2
                clear HOWN own2
                have HOWN := HOWN2
                clear HOWN2
                refine step_run_append rfl _ _ rfl rfl (by rfl) (by rfl) hu2 ?_
                refine hK.out _ _ (by exact ⟨Lib.hid hBn, (HA.out.below hBn hxw).1, (HA.out.below hBn hxw).2.1, (HA.out.below hBn hxw).2.2⟩) (fun hNew => ?_)
                clear hK K hHeld; have hHeld := hNew; clear hNew
                have HBn := Lib.hid hBn; clear hBn HBc; have HBc := HBn; clear HBn
                clear hu2
                try simp only [Act.put, List.setIfInBounds_toArray, List.set_cons_zero, List.set_cons_succ]
                refine wpAnyH_ready (rs := [14]) (by kernel_rfl) (by simp) ?_
                refine AllReadyH.cons (o := ⟨some 58, _, _, _, _, _⟩) rfl (fun K hK => ?_) AllReadyH.nil
                obtain ⟨v3, W5, hu3, own3, hBn, _, _, _⟩ := append_step wq W4 v2 (.slice (some ⟨b2, o2 + k * 3, none⟩) (L.length - k) (c2 - k)) ([] ++ L.take k ++ [x]) (L.drop k) HBc.out HOWN.out ((VRow.drop HR2.out).below HBc.out) (by simp <;> omega)
                have HOWN2 := Lib.hid own3
                clear HOWN own3
                have HOWN := HOWN2
                clear HOWN2
                refine step_run_append rfl _ _ rfl rfl (by rfl) (by rfl) hu3 ?_
                refine hK.out _ _ (by exact ⟨Lib.hid hBn, (HA.out.below hBn hxw).1, (HA.out.below hBn hxw).2.1, (HA.out.below hBn hxw).2.2⟩) (fun hNew => ?_)
                clear hK K hHeld; have hHeld := hNew; clear hNew
                have HBn := Lib.hid hBn; clear hBn HBc; have HBc := HBn; clear HBn
                clear hu3
                try simp only [Act.put, List.setIfInBounds_toArray, List.set_cons_zero, List.set_cons_succ]
                refine wpAnyH_take (i := 15) (oi := ⟨some 3, _, _, _, _, _⟩) (v := ?_) rfl (by kernel_rfl) (by kernel_rfl) (by kernel_rfl) (fun _ _ _ h => h) (Or.inl ⟨by rfl, ?_⟩) (by assumption) ?_
                rotate_left
                focus (intro w hSw; (try dsimp only at hSw); go_simp; first | done | with_reducible rfl)
                try simp only [Act.put, List.setIfInBounds_toArray, List.set_cons_zero, List.set_cons_succ]
                refine wpAnyH_done (by kernel_rfl) ?_ _
                go_wp2
                go_roundw
                case rel => exact ⟨n + 1, [] ++ L.take k ++ [x] ++ L.drop k, by omega, by go_num, own_base HOWN.out HB.out.size, HUP.out, mem_more2 hlt HM.out HGX.out, by simp <;> omega, HB.out.trans (HBc.out.mono HB.out.size)⟩
                case measure => simp [intOf]; omega
              refine AllReadyH.cons (o := ⟨some 53, _, _, _, _, _⟩) rfl (fun K hK => ?_) AllReadyH.nil
              go_simp
              have hBn := HBc.out.alloc HBc.out.size (.cells #[.int .i64 x.a, .int .i64 x.b, .int .i64 x.c] 23)
              have hX := hb_new W0 (.cells #[.int .i64 x.a, .int .i64 x.b, .int .i64 x.c] 23)
              try simp only [World.size_alloc] at hX
              refine hK.out _ _ (by exact ⟨Lib.hid hBn, (HA.out.below hBn hxw).1, (HA.out.below hBn hxw).2.1, (HA.out.below hBn hxw).2.2⟩) (fun hNew => ?_)
              clear hK K hHeld; have hHeld := hNew; clear hNew
              have HBn := Lib.hid hBn; clear hBn HBc; have HBc := HBn; clear HBn
              have HX := Lib.hid hX
              clear hX
              try simp only [Act.put, List.setIfInBounds_toArray, List.set_cons_zero, List.set_cons_succ]
              refine wpAnyH_ready (rs := [0]) (by kernel_rfl) (by simp) ?_
              refine AllReadyH.cons (o := ⟨some 44, _, _, _, _, _⟩) rfl (fun K hK => ?_) AllReadyH.nil
              go_simp
              have hBn := HBc.out.alloc HBc.out.size (.cells #[] 23)
              have hOn := own_base (own_empty (W0.alloc (.cells #[.int .i64 x.a, .int .i64 x.b, .int .i64 x.c] 23))) HBc.out.size
              try simp only [World.size_alloc] at hOn
              refine hK.out _ _ (by exact ⟨Lib.hid hBn, (HA.out.below hBn hxw).1, (HA.out.below hBn hxw).2.1, (HA.out.below hBn hxw).2.2⟩) (fun hNew => ?_)
              clear hK K hHeld; have hHeld := hNew; clear hNew
              have HBn := Lib.hid hBn; clear hBn HBc; have HBc := HBn; clear HBn
              have HOWN := Lib.hid hOn
              clear hOn
              have HX2 := Lib.hid (hb_alloc HX.out (.cells #[] 23))
              clear HX
              have HX := HX2
              clear HX2
              have hne : Value.ownBlock (.slice (some ⟨W0.heap.size + 1, 0, none⟩) 0 0) ≠ some (W0.heap.size) := by simp [Value.ownBlock]
              try simp only [Act.put, List.setIfInBounds_toArray, List.set_cons_zero, List.set_cons_succ]
              refine wpAnyH_ready (rs := [4]) (by kernel_rfl) (by simp) ?_
              refine AllReadyH.cons (o := ⟨some 48, _, _, _, _, _⟩) rfl (fun K hK => ?_) AllReadyH.nil
              obtain ⟨v1, W2, hu1, own1, hBn, hk1, hz1, hat1⟩ := append_step wq ((W0.alloc (.cells #[.int .i64 x.a, .int .i64 x.b, .int .i64 x.c] 23)).alloc (.cells #[] 23)) _ (.slice (some ⟨b2, o2, none⟩) k c2) [] (L.take k) HBc.out HOWN.out ((VRow.take HR2.out hk).below HBc.out) (by simp <;> omega)
              have HOWN2 := Lib.hid own1
              clear HOWN own1
              have HOWN := HOWN2
              clear HOWN2
              have HX2 := Lib.hid (hk1 _ _ HX.out hne)
              clear HX hne
              have HX := HX2
              clear HX2
              clear hk1 hz1 hat1
              refine step_run_append rfl _ _ rfl rfl (by rfl) (by rfl) hu1 ?_
              refine hK.out _ _ (by exact ⟨Lib.hid hBn, (HA.out.below hBn hxw).1, (HA.out.below hBn hxw).2.1, (HA.out.below hBn hxw).2.2⟩) (fun hNew => ?_)
              clear hK K hHeld; have hHeld := hNew; clear hNew
              have HBn := Lib.hid hBn; clear hBn HBc; have HBc := HBn; clear HBn
              clear hu1
              try simp only [Act.put, List.setIfInBounds_toArray, List.set_cons_zero, List.set_cons_succ]
              refine wpAnyH_ready (rs := [10]) (by kernel_rfl) (by simp) ?_
              refine AllReadyH.cons (o := ⟨some 54, _, _, _, _, _⟩) rfl (fun K hK => ?_) AllReadyH.nil
              obtain ⟨v2, W4, hu2, own2, hBn, _, _, _⟩ := append_step wq W2 v1 (.slice (some ⟨W0.heap.size, 0, none⟩) 1 1) ([] ++ L.take k) [x] HBc.out HOWN.out (VRow.one HX.out) (by simp <;> omega)
              have HOWN2 := Lib.hid own2
              clear HOWN own2
              have HOWN := HOWN2
              clear HOWN2
              refine step_run_append rfl _ _ rfl rfl (by rfl) (by rfl) hu2 ?_
              refine hK.out _ _ (by exact ⟨Lib.hid hBn, (HA.out.below hBn hxw).1, (HA.out.below hBn hxw).2.1, (HA.out.below hBn hxw).2.2⟩) (fun hNew => ?_)
              clear hK K hHeld; have hHeld := hNew; clear hNew
              have HBn := Lib.hid hBn; clear hBn HBc; have HBc := HBn; clear HBn
              clear hu2
              try simp only [Act.put, List.setIfInBounds_toArray, List.set_cons_zero, List.set_cons_succ]
              refine wpAnyH_ready (rs := [14]) (by kernel_rfl) (by simp) ?_
              refine AllReadyH.cons (o := ⟨some 58, _, _, _, _, _⟩) rfl (fun K hK => ?_) AllReadyH.nil
              obtain ⟨v3, W5, hu3, own3, hBn, _, _, _⟩ := append_step wq W4 v2 (.slice (some ⟨b2, o2 + k * 3, none⟩) (L.length - k) (c2 - k)) ([] ++ L.take k ++ [x]) (L.drop k) HBc.out HOWN.out ((VRow.drop HR2.out).below HBc.out) (by simp <;> omega)
              have HOWN2 := Lib.hid own3
              clear HOWN own3
              have HOWN := HOWN2
              clear HOWN2
              refine step_run_append rfl _ _ rfl rfl (by rfl) (by rfl) hu3 ?_
              refine hK.out _ _ (by exact ⟨Lib.hid hBn, (HA.out.below hBn hxw).1, (HA.out.below hBn hxw).2.1, (HA.out.below hBn hxw).2.2⟩) (fun hNew => ?_)
              clear hK K hHeld; have hHeld := hNew; clear hNew
              have HBn := Lib.hid hBn; clear hBn HBc; have HBc := HBn; clear HBn
              clear hu3
              try simp only [Act.put, List.setIfInBounds_toArray, List.set_cons_zero, List.set_cons_succ]
              refine wpAnyH_take (i := 15) (oi := ⟨some 3, _, _, _, _, _⟩) (v := ?_) rfl (by kernel_rfl) (by kernel_rfl) (by kernel_rfl) (fun _ _ _ h => h) (Or.inl ⟨by rfl, ?_⟩) (by assumption) ?_
              rotate_left
              focus (intro w hSw; (try dsimp only at hSw); go_simp; first | done | with_reducible rfl)
              try simp only [Act.put, List.setIfInBounds_toArray, List.set_cons_zero, List.set_cons_succ]
              refine wpAnyH_done (by kernel_rfl) ?_ _
              go_wp2
              go_roundw
              case rel => exact ⟨n + 1, [] ++ L.take k ++ [x] ++ L.drop k, by omega, by go_num, own_base HOWN.out HB.out.size, HUP.out, mem_more2 hlt HM.out HGX.out, by simp <;> omega, HB.out.trans (HBc.out.mono HB.out.size)⟩
              case measure => simp [intOf]; omega
        · obtain rfl : k = L.length := by omega
          generalize hgx : l[n] = x at *
          have HGX := Lib.hid hgx
          clear hgx
          go_wp2
          refine wp_region_held_drew (S := (fun w' => RowKit.Hid (Below wr.heap.size wr w') ∧ w'.cell? ⟨b, o + n * 3, none⟩ = some (.int .i64 x.a) ∧ w'.cell? ⟨b, o + n * 3 + 1, none⟩ = some (.int .i64 x.b) ∧ w'.cell? ⟨b, o + n * 3 + 2, none⟩ = some (.int .i64 x.c))) (by kernel_rfl) (by exact ⟨Lib.hid (below_drewN (Below.refl _ _) 1), x0, x1, x2⟩) (fun hHeld => ?_)
          refine wpAnyH_take (i := 0) (oi := ⟨some 12, _, _, _, _, _⟩) (v := ?_) rfl (by kernel_rfl) (by kernel_rfl) (by kernel_rfl) (fun _ _ _ h => h) (Or.inl ⟨by rfl, ?_⟩) (by assumption) ?_
          rotate_left
          focus (intro w hSw; (try dsimp only at hSw); go_simp; first | done | with_reducible rfl)
          try simp only [Act.put, List.setIfInBounds_toArray, List.set_cons_zero, List.set_cons_succ]
          refine wpAnyH_take (i := 1) (oi := ⟨some 13, _, _, _, _, _⟩) (v := ?_) rfl (by kernel_rfl) (by kernel_rfl) (by kernel_rfl) (fun _ _ _ h => h) (Or.inl ⟨by rfl, ?_⟩) (by assumption) ?_
          rotate_left
          focus (intro w hSw; (try dsimp only at hSw); go_simp; first | done | with_reducible rfl)
          try simp only [Act.put, List.setIfInBounds_toArray, List.set_cons_zero, List.set_cons_succ]
          refine wpAnyH_take (i := 2) (oi := ⟨some 14, _, _, _, _, _⟩) (v := ?_) rfl (by kernel_rfl) (by kernel_rfl) (by kernel_rfl) (fun _ _ _ h => h) (Or.inl ⟨by rfl, ?_⟩) (by assumption) ?_
          rotate_left
          focus (intro w hSw; (try dsimp only at hSw); go_simp; first | done | with_reducible rfl)
          try simp only [Act.put, List.setIfInBounds_toArray, List.set_cons_zero, List.set_cons_succ]
          refine wpAnyH_take (i := 3) (oi := ⟨some 15, _, _, _, _, _⟩) (v := ?_) rfl (by kernel_rfl) (by kernel_rfl) (by kernel_rfl) (fun _ _ _ h => h) (Or.inl ⟨by rfl, ?_⟩) (by assumption) ?_
          rotate_left
          focus (intro w hSw; (try dsimp only at hSw); go_simp; first | done | with_reducible rfl)
          try simp only [Act.put, List.setIfInBounds_toArray, List.set_cons_zero, List.set_cons_succ]
          refine wpAnyH_take (i := 4) (oi := ⟨some 16, _, _, _, _, _⟩) (v := ?_) rfl (by kernel_rfl) (by kernel_rfl) (by kernel_rfl) (fun _ _ _ h => h) (Or.inl ⟨by rfl, ?_⟩) (by assumption) ?_
          rotate_left
          focus (intro w hSw; (try dsimp only at hSw); go_simp; first | done | with_reducible rfl)
          try simp only [Act.put, List.setIfInBounds_toArray, List.set_cons_zero, List.set_cons_succ]
          refine wpAnyH_take (i := 5) (oi := ⟨some 17, _, _, _, _, _⟩) (v := undef) rfl (by kernel_rfl) (by kernel_rfl) (by kernel_rfl) (fun _ _ _ h => h) (Or.inr ⟨by rfl, rfl⟩) (by assumption) ?_
          try simp only [Act.put, List.setIfInBounds_toArray, List.set_cons_zero, List.set_cons_succ]
          refine wpAnyH_take (i := 6) (oi := ⟨some 18, _, _, _, _, _⟩) (v := undef) rfl (by kernel_rfl) (by kernel_rfl) (by kernel_rfl) (fun _ _ _ h => h) (Or.inr ⟨by rfl, rfl⟩) (by assumption) ?_
          try simp only [Act.put, List.setIfInBounds_toArray, List.set_cons_zero, List.set_cons_succ]
          refine wpAnyH_take (i := 7) (oi := ⟨some 19, _, _, _, _, _⟩) (v := undef) rfl (by kernel_rfl) (by kernel_rfl) (by kernel_rfl) (fun _ _ _ h => h) (Or.inr ⟨by rfl, rfl⟩) (by assumption) ?_
          try simp only [Act.put, List.setIfInBounds_toArray, List.set_cons_zero, List.set_cons_succ]
          refine wpAnyH_take (i := 8) (oi := ⟨some 20, _, _, _, _, _⟩) (v := undef) rfl (by kernel_rfl) (by kernel_rfl) (by kernel_rfl) (fun _ _ _ h => h) (Or.inr ⟨by rfl, rfl⟩) (by assumption) ?_
          try simp only [Act.put, List.setIfInBounds_toArray, List.set_cons_zero, List.set_cons_succ]
          refine wpAnyH_take (i := 9) (oi := ⟨some 21, _, _, _, _, _⟩) (v := undef) rfl (by kernel_rfl) (by kernel_rfl) (by kernel_rfl) (fun _ _ _ h => h) (Or.inr ⟨by rfl, rfl⟩) (by assumption) ?_
          try simp only [Act.put, List.setIfInBounds_toArray, List.set_cons_zero, List.set_cons_succ]
          refine wpAnyH_take (i := 10) (oi := ⟨some 22, _, _, _, _, _⟩) (v := undef) rfl (by kernel_rfl) (by kernel_rfl) (by kernel_rfl) (fun _ _ _ h => h) (Or.inr ⟨by rfl, rfl⟩) (by assumption) ?_
          try simp only [Act.put, List.setIfInBounds_toArray, List.set_cons_zero, List.set_cons_succ]
          refine wpAnyH_take (i := 11) (oi := ⟨some 23, _, _, _, _, _⟩) (v := undef) rfl (by kernel_rfl) (by kernel_rfl) (by kernel_rfl) (fun _ _ _ h => h) (Or.inr ⟨by rfl, rfl⟩) (by assumption) ?_
          try simp only [Act.put, List.setIfInBounds_toArray, List.set_cons_zero, List.set_cons_succ]
          refine wpAnyH_take (i := 12) (oi := ⟨some 24, _, _, _, _, _⟩) (v := undef) rfl (by kernel_rfl) (by kernel_rfl) (by kernel_rfl) (fun _ _ _ h => h) (Or.inr ⟨by rfl, rfl⟩) (by assumption) ?_
          try simp only [Act.put, List.setIfInBounds_toArray, List.set_cons_zero, List.set_cons_succ]
          refine wpAnyH_take (i := 13) (oi := ⟨some 25, _, _, _, _, _⟩) (v := undef) rfl (by kernel_rfl) (by kernel_rfl) (by kernel_rfl) (fun _ _ _ h => h) (Or.inr ⟨by rfl, rfl⟩) (by assumption) ?_
          try simp only [Act.put, List.setIfInBounds_toArray, List.set_cons_zero, List.set_cons_succ]
          refine wpAnyH_take (i := 14) (oi := ⟨some 26, _, _, _, _, _⟩) (v := ?_) rfl (by kernel_rfl) (by kernel_rfl) (by kernel_rfl) (fun _ _ _ h => h) (Or.inl ⟨by rfl, ?_⟩) (by assumption) ?_
          rotate_left
          focus (intro w hSw; (try dsimp only at hSw); go_simp; first | done | with_reducible rfl)
          try simp only [Act.put, List.setIfInBounds_toArray, List.set_cons_zero, List.set_cons_succ]
          refine wpAnyH_done (by kernel_rfl) ?_ _
          obtain ⟨hq6, s0, s1, s2⟩ := hHeld
          clear x0 x1 x2
          go_wp2
          refine wp_region_held_drew (S := (fun w' => RowKit.Hid (Below wr.heap.size wr w') ∧ w'.cell? ⟨b, o + n * 3, none⟩ = some (.int .i64 x.a) ∧ w'.cell? ⟨b, o + n * 3 + 1, none⟩ = some (.int .i64 x.b) ∧ w'.cell? ⟨b, o + n * 3 + 2, none⟩ = some (.int .i64 x.c))) (by kernel_rfl) (by exact ⟨Lib.hid (below_drewN hq6.out 1), s0, s1, s2⟩) (fun hHeld => ?_)
          refine wpAnyH_take (i := 0) (oi := ⟨some 29, _, _, _, _, _⟩) (v := ?_) rfl (by kernel_rfl) (by kernel_rfl) (by kernel_rfl) (fun _ _ _ h => h) (Or.inl ⟨by rfl, ?_⟩) (by assumption) ?_
          rotate_left
          focus (intro w hSw; (try dsimp only at hSw); go_simp; first | done | with_reducible rfl)
          try simp only [Act.put, List.setIfInBounds_toArray, List.set_cons_zero, List.set_cons_succ]
          refine wpAnyH_take (i := 1) (oi := ⟨some 30, _, _, _, _, _⟩) (v := ?_) rfl (by kernel_rfl) (by kernel_rfl) (by kernel_rfl) (fun _ _ _ h => h) (Or.inl ⟨by rfl, ?_⟩) (by assumption) ?_
          rotate_left
          focus (intro w hSw; (try dsimp only at hSw); go_simp; first | done | with_reducible rfl)
          try simp only [Act.put, List.setIfInBounds_toArray, List.set_cons_zero, List.set_cons_succ]
          refine wpAnyH_take (i := 2) (oi := ⟨some 31, _, _, _, _, _⟩) (v := ?_) rfl (by kernel_rfl) (by kernel_rfl) (by kernel_rfl) (fun _ _ _ h => h) (Or.inl ⟨by rfl, ?_⟩) (by assumption) ?_
          rotate_left
          focus (intro w hSw; (try dsimp only at hSw); go_simp; first | done | with_reducible rfl)
          try simp only [Act.put, List.setIfInBounds_toArray, List.set_cons_zero, List.set_cons_succ]
          refine wpAnyH_take (i := 3) (oi := ⟨some 32, _, _, _, _, _⟩) (v := ?_) rfl (by kernel_rfl) (by kernel_rfl) (by kernel_rfl) (fun _ _ _ h => h) (Or.inl ⟨by rfl, ?_⟩) (by assumption) ?_
          rotate_left
          focus (intro w hSw; (try dsimp only at hSw); go_simp; first | done | with_reducible rfl)
          try simp only [Act.put, List.setIfInBounds_toArray, List.set_cons_zero, List.set_cons_succ]
          refine wpAnyH_take (i := 4) (oi := ⟨some 33, _, _, _, _, _⟩) (v := ?_) rfl (by kernel_rfl) (by kernel_rfl) (by kernel_rfl) (fun _ _ _ h => h) (Or.inl ⟨by rfl, ?_⟩) (by assumption) ?_
          rotate_left
          focus (intro w hSw; (try dsimp only at hSw); go_simp; first | done | with_reducible rfl)
          try simp only [Act.put, List.setIfInBounds_toArray, List.set_cons_zero, List.set_cons_succ]
          refine wpAnyH_take (i := 5) (oi := ⟨some 34, _, _, _, _, _⟩) (v := undef) rfl (by kernel_rfl) (by kernel_rfl) (by kernel_rfl) (fun _ _ _ h => h) (Or.inr ⟨by rfl, rfl⟩) (by assumption) ?_
          try simp only [Act.put, List.setIfInBounds_toArray, List.set_cons_zero, List.set_cons_succ]
          refine wpAnyH_take (i := 6) (oi := ⟨some 35, _, _, _, _, _⟩) (v := undef) rfl (by kernel_rfl) (by kernel_rfl) (by kernel_rfl) (fun _ _ _ h => h) (Or.inr ⟨by rfl, rfl⟩) (by assumption) ?_
          try simp only [Act.put, List.setIfInBounds_toArray, List.set_cons_zero, List.set_cons_succ]
          refine wpAnyH_take (i := 7) (oi := ⟨some 36, _, _, _, _, _⟩) (v := undef) rfl (by kernel_rfl) (by kernel_rfl) (by kernel_rfl) (fun _ _ _ h => h) (Or.inr ⟨by rfl, rfl⟩) (by assumption) ?_
          try simp only [Act.put, List.setIfInBounds_toArray, List.set_cons_zero, List.set_cons_succ]
          refine wpAnyH_take (i := 8) (oi := ⟨some 37, _, _, _, _, _⟩) (v := undef) rfl (by kernel_rfl) (by kernel_rfl) (by kernel_rfl) (fun _ _ _ h => h) (Or.inr ⟨by rfl, rfl⟩) (by assumption) ?_
          try simp only [Act.put, List.setIfInBounds_toArray, List.set_cons_zero, List.set_cons_succ]
          refine wpAnyH_take (i := 9) (oi := ⟨some 38, _, _, _, _, _⟩) (v := undef) rfl (by kernel_rfl) (by kernel_rfl) (by kernel_rfl) (fun _ _ _ h => h) (Or.inr ⟨by rfl, rfl⟩) (by assumption) ?_
          try simp only [Act.put, List.setIfInBounds_toArray, List.set_cons_zero, List.set_cons_succ]
          refine wpAnyH_take (i := 10) (oi := ⟨some 39, _, _, _, _, _⟩) (v := undef) rfl (by kernel_rfl) (by kernel_rfl) (by kernel_rfl) (fun _ _ _ h => h) (Or.inr ⟨by rfl, rfl⟩) (by assumption) ?_
          try simp only [Act.put, List.setIfInBounds_toArray, List.set_cons_zero, List.set_cons_succ]
          refine wpAnyH_take (i := 11) (oi := ⟨some 40, _, _, _, _, _⟩) (v := undef) rfl (by kernel_rfl) (by kernel_rfl) (by kernel_rfl) (fun _ _ _ h => h) (Or.inr ⟨by rfl, rfl⟩) (by assumption) ?_
          try simp only [Act.put, List.setIfInBounds_toArray, List.set_cons_zero, List.set_cons_succ]
          refine wpAnyH_take (i := 12) (oi := ⟨some 41, _, _, _, _, _⟩) (v := undef) rfl (by kernel_rfl) (by kernel_rfl) (by kernel_rfl) (fun _ _ _ h => h) (Or.inr ⟨by rfl, rfl⟩) (by assumption) ?_
          try simp only [Act.put, List.setIfInBounds_toArray, List.set_cons_zero, List.set_cons_succ]
          refine wpAnyH_take (i := 13) (oi := ⟨some 42, _, _, _, _, _⟩) (v := undef) rfl (by kernel_rfl) (by kernel_rfl) (by kernel_rfl) (fun _ _ _ h => h) (Or.inr ⟨by rfl, rfl⟩) (by assumption) ?_
          try simp only [Act.put, List.setIfInBounds_toArray, List.set_cons_zero, List.set_cons_succ]
          refine wpAnyH_take (i := 14) (oi := ⟨some 43, _, _, _, _, _⟩) (v := ?_) rfl (by kernel_rfl) (by kernel_rfl) (by kernel_rfl) (fun _ _ _ h => h) (Or.inl ⟨by rfl, ?_⟩) (by assumption) ?_
          rotate_left
          focus (intro w hSw; (try dsimp only at hSw); go_simp; first | done | with_reducible rfl)
          try simp only [Act.put, List.setIfInBounds_toArray, List.set_cons_zero, List.set_cons_succ]
          refine wpAnyH_done (by kernel_rfl) ?_ _
          go_wp2
          have hBz : Below wq.heap.size wq wr.drew.drew := below_drewN (HI.out.trans (hq6.out.mono hzi)) 1
          have HUP : RowKit.Hid (Sv.Up ([] ++ L.take L.length ++ [x] ++ L.drop L.length)) := Lib.hid (by rw [List.nil_append]; exact Sv.up_put HUp.out (Nat.le_refl _) (fun j hj _ => HALL.out j hj hj) (fun hk2 => absurd hk2 (by omega)))
          rcases HQ.out with ⟨hq0, hc0⟩ | ⟨g, hq0, hg⟩
          · have hL0 : L = [] := List.eq_nil_of_length_eq_zero (by omega)
            subst hq0 hc0 hL0
            simp only [List.length_nil] at *
            obtain ⟨wz, hwz⟩ : ∃ wz, wz = wr.drew.drew := ⟨_, rfl⟩
            rw [← hwz] at hBz ⊢
            have hBz2 := below_drewN hBz 1
            clear hwz hBz
            refine wp_region_held_drew (S := (fun w' => RowKit.Hid (Below wq.heap.size wq w') ∧ w'.cell? ⟨b, o + n * 3, none⟩ = some (.int .i64 x.a) ∧ w'.cell? ⟨b, o + n * 3 + 1, none⟩ = some (.int .i64 x.b) ∧ w'.cell? ⟨b, o + n * 3 + 2, none⟩ = some (.int .i64 x.c))) (by kernel_rfl) (by exact ⟨Lib.hid hBz2, (HA.out.below hBz2 hxw).1, (HA.out.below hBz2 hxw).2.1, (HA.out.below hBz2 hxw).2.2⟩) (fun hHeld => ?_)
            change Below wq.heap.size wq wz.drew at hBz2
            generalize wz.drew = W0 at *
            have HB0 := Lib.hid hBz2
            clear hBz2
            have HBc := HB0
            clear HB0
            refine wpAnyH_take (i := 1) (oi := ⟨some 45, _, _, _, _, _⟩) (v := ?_) rfl (by kernel_rfl) (by kernel_rfl) (by kernel_rfl) (fun _ _ _ h => h) (Or.inl ⟨by rfl, ?_⟩) (by assumption) ?_
            rotate_left
            focus (intro w hSw; (try dsimp only at hSw); go_simp; first | done | with_reducible rfl)
            try simp only [Act.put, List.setIfInBounds_toArray, List.set_cons_zero, List.set_cons_succ]
            refine wpAnyH_take (i := 2) (oi := ⟨some 46, _, _, _, _, _⟩) (v := ?_) rfl (by kernel_rfl) (by kernel_rfl) (by kernel_rfl) (fun _ _ _ h => h) (Or.inl ⟨by rfl, ?_⟩) (by assumption) ?_
            rotate_left
            focus (intro w hSw; (try dsimp only at hSw); go_simp; first | done | with_reducible rfl)
            try simp only [Act.put, List.setIfInBounds_toArray, List.set_cons_zero, List.set_cons_succ]
            refine wpAnyH_take (i := 3) (oi := ⟨some 47, _, _, _, _, _⟩) (v := ?_) rfl (by kernel_rfl) (by kernel_rfl) (by kernel_rfl) (fun _ _ _ h => h) (Or.inl ⟨by rfl, ?_⟩) (by assumption) ?_
            rotate_left
            focus (intro w hSw; (try dsimp only at hSw); go_simp; first | done | with_reducible rfl)
            try simp only [Act.put, List.setIfInBounds_toArray, List.set_cons_zero, List.set_cons_succ]
            refine wpAnyH_take (i := 5) (oi := ⟨some 49, _, _, _, _, _⟩) (v := ?_) rfl (by kernel_rfl) (by kernel_rfl) (by kernel_rfl) (fun _ _ _ h => h) (Or.inl ⟨by rfl, ?_⟩) (by assumption) ?_
            rotate_left
            focus (intro w hSw; (try dsimp only at hSw); go_simp; first | done | with_reducible rfl)
            try simp only [Act.put, List.setIfInBounds_toArray, List.set_cons_zero, List.set_cons_succ]
            refine wpAnyH_take (i := 6) (oi := ⟨some 50, _, _, _, _, _⟩) (v := ?_) rfl (by kernel_rfl) (by kernel_rfl) (by kernel_rfl) (fun _ _ _ h => h) (Or.inl ⟨by rfl, ?_⟩) (by assumption) ?_
            rotate_left
            focus (intro w hSw; (try dsimp only at hSw); go_simp; first | done | with_reducible rfl)
            try simp only [Act.put, List.setIfInBounds_toArray, List.set_cons_zero, List.set_cons_succ]
            refine wpAnyH_take (i := 7) (oi := ⟨some 51, _, _, _, _, _⟩) (v := ?_) rfl (by kernel_rfl) (by kernel_rfl) (by kernel_rfl) (fun _ _ _ h => h) (Or.inl ⟨by rfl, ?_⟩) (by assumption) ?_
            rotate_left
            focus (intro w hSw; (try dsimp only at hSw); go_simp; first | done | with_reducible rfl)
            try simp only [Act.put, List.setIfInBounds_toArray, List.set_cons_zero, List.set_cons_succ]
            refine wpAnyH_take (i := 8) (oi := ⟨some 52, _, _, _, _, _⟩) (v := ?_) rfl (by kernel_rfl) (by kernel_rfl) (by kernel_rfl) (fun _ _ _ h => h) (Or.inl ⟨by rfl, ?_⟩) (by assumption) ?_
            rotate_left
            focus (intro w hSw; (try dsimp only at hSw); go_simp; first | done | with_reducible rfl)
            try simp only [Act.put, List.setIfInBounds_toArray, List.set_cons_zero, List.set_cons_succ]
            refine wpAnyH_take (i := 11) (oi := ⟨some 55, _, _, _, _, _⟩) (v := ?_) rfl (by kernel_rfl) (by kernel_rfl) (by kernel_rfl) (fun _ _ _ h => h) (Or.inl ⟨by rfl, ?_⟩) (by assumption) ?_
            rotate_left
            focus (intro w hSw; (try dsimp only at hSw); go_simp; first | done | with_reducible rfl)
            try simp only [Act.put, List.setIfInBounds_toArray, List.set_cons_zero, List.set_cons_succ]
            refine wpAnyH_take (i := 12) (oi := ⟨some 56, _, _, _, _, _⟩) (v := ?_) rfl (by kernel_rfl) (by kernel_rfl) (by kernel_rfl) (fun _ _ _ h => h) (Or.inl ⟨by rfl, ?_⟩) (by assumption) ?_
            rotate_left
            focus (intro w hSw; (try dsimp only at hSw); go_simp; first | done | with_reducible rfl)
            try simp only [Act.put, List.setIfInBounds_toArray, List.set_cons_zero, List.set_cons_succ]
            refine wpAnyH_take (i := 13) (oi := ⟨some 57, _, _, _, _, _⟩) (v := ?_) rfl (by kernel_rfl) (by kernel_rfl) (by kernel_rfl) (fun _ _ _ h => h) (Or.inl ⟨by rfl, ?_⟩) (by assumption) ?_
            rotate_left
            focus (intro w hSw; (try dsimp only at hSw); go_simp; first | done | with_reducible rfl)
            try simp only [Act.put, List.setIfInBounds_toArray, List.set_cons_zero, List.set_cons_succ]
            refine wpAnyH_ready (rs := [0, 9]) (by kernel_rfl) (by simp) ?_
            refine AllReadyH.cons (o := ⟨some 44, _, _, _, _, _⟩) rfl (fun K hK => ?_) ?_
            focus
              go_simp
              have hBn := HBc.out.alloc HBc.out.size (.cells #[] 23)
              have hOn := own_base (own_empty W0) HBc.out.size
              try simp only [World.size_alloc] at hOn
              refine hK.out _ _ (by exact ⟨Lib.hid hBn, (HA.out.below hBn hxw).1, (HA.out.below hBn hxw).2.1, (HA.out.below hBn hxw).2.2⟩) (fun hNew => ?_)
              clear hK K hHeld; have hHeld := hNew; clear hNew
              have HBn := Lib.hid hBn; clear hBn HBc; have HBc := HBn; clear HBn
              have HOWN := Lib.hid hOn
              clear hOn
              try simp only [Act.put, List.setIfInBounds_toArray, List.set_cons_zero, List.set_cons_succ]
              refine wpAnyH_ready (rs := [4, 9]) (by kernel_rfl) (by simp) ?_
              refine AllReadyH.cons (o := ⟨some 48, _, _, _, _, _⟩) rfl (fun K hK => ?_) ?_
              focus
                obtain ⟨v1, W2, hu1, own1, hBn, hk1, hz1, hat1⟩ := append_step wq (W0.alloc (.cells #[] 23)) _ (.slice none 0 0) [] ([].take 0) HBc.out HOWN.out ((VRow.take HR2.out (Nat.le_refl _)).below HBc.out) (by simp <;> omega)
                have HOWN2 := Lib.hid own1
                clear HOWN own1
                have HOWN := HOWN2
                clear HOWN2
                clear hk1 hz1 hat1
                refine step_run_append rfl _ _ rfl rfl (by rfl) (by rfl) hu1 ?_
                refine hK.out _ _ (by exact ⟨Lib.hid hBn, (HA.out.below hBn hxw).1, (HA.out.below hBn hxw).2.1, (HA.out.below hBn hxw).2.2⟩) (fun hNew => ?_)
                clear hK K hHeld; have hHeld := hNew; clear hNew
                have HBn := Lib.hid hBn; clear hBn HBc; have HBc := HBn; clear HBn
                clear hu1
                try simp only [Act.put, List.setIfInBounds_toArray, List.set_cons_zero, List.set_cons_succ]
                refine wpAnyH_ready (rs := [9]) (by kernel_rfl) (by simp) ?_
                refine AllReadyH.cons (o := ⟨some 53, _, _, _, _, _⟩) rfl (fun K hK => ?_) AllReadyH.nil
                go_simp
                have hBn := HBc.out.alloc HBc.out.size (.cells #[.int .i64 x.a, .int .i64 x.b, .int .i64 x.c] 23)
                have hX := hb_new W2 (.cells #[.int .i64 x.a, .int .i64 x.b, .int .i64 x.c] 23)
                try simp only [World.size_alloc] at hX
                refine hK.out _ _ (by exact ⟨Lib.hid hBn, (HA.out.below hBn hxw).1, (HA.out.below hBn hxw).2.1, (HA.out.below hBn hxw).2.2⟩) (fun hNew => ?_)
                clear hK K hHeld; have hHeld := hNew; clear hNew
                have HBn := Lib.hid hBn; clear hBn HBc; have HBc := HBn; clear HBn
                have HX := Lib.hid hX
                clear hX
                have HOWN2 := Lib.hid (HOWN.out.alloc (.cells #[.int .i64 x.a, .int .i64 x.b, .int .i64 x.c] 23))
                clear HOWN
                have HOWN := HOWN2
                clear HOWN2
                try simp only [Act.put, List.setIfInBounds_toArray, List.set_cons_zero, List.set_cons_succ]
                refine wpAnyH_ready (rs := [10]) (by kernel_rfl) (by simp) ?_
                refine AllReadyH.cons (o := ⟨some 54, _, _, _, _, _⟩) rfl (fun K hK => ?_) AllReadyH.nil
                obtain ⟨v2, W4, hu2, own2, hBn, _, _, _⟩ := append_step wq (W2.alloc (.cells #[.int .i64 x.a, .int .i64 x.b, .int .i64 x.c] 23)) v1 (.slice (some ⟨W2.heap.size, 0, none⟩) 1 1) ([] ++ [].take 0) [x] HBc.out HOWN.out (VRow.one HX.out) (by simp <;> omega)
                have HOWN2 := Lib.hid own2
                clear HOWN own2
                have HOWN := HOWN2
                clear HOWN2
                refine step_run_append rfl _ _ rfl rfl (by rfl) (by rfl) hu2 ?_
                refine hK.out _ _ (by exact ⟨Lib.hid hBn, (HA.out.below hBn hxw).1, (HA.out.below hBn hxw).2.1, (HA.out.below hBn hxw).2.2⟩) (fun hNew => ?_)
                clear hK K hHeld; have hHeld := hNew; clear hNew
                have HBn := Lib.hid hBn; clear hBn HBc; have HBc := HBn; clear HBn
                clear hu2
                try simp only [Act.put, List.setIfInBounds_toArray, List.set_cons_zero, List.set_cons_succ]
                refine wpAnyH_ready (rs := [14]) (by kernel_rfl) (by simp) ?_
                refine AllReadyH.cons (o := ⟨some 58, _, _, _, _, _⟩) rfl (fun K hK => ?_) AllReadyH.nil
                obtain ⟨v3, W5, hu3, own3, hBn, _, _, _⟩ := append_step wq W4 v2 (.slice none 0 0) ([] ++ [].take 0 ++ [x]) ([].drop 0) HBc.out HOWN.out (⟨none, 0, rfl, fun i x hx => by simp at hx⟩) (by simp <;> omega)
                have HOWN2 := Lib.hid own3
                clear HOWN own3
                have HOWN := HOWN2
                clear HOWN2
                refine step_run_append rfl _ _ rfl rfl (by rfl) (by rfl) hu3 ?_
                refine hK.out _ _ (by exact ⟨Lib.hid hBn, (HA.out.below hBn hxw).1, (HA.out.below hBn hxw).2.1, (HA.out.below hBn hxw).2.2⟩) (fun hNew => ?_)
                clear hK K hHeld; have hHeld := hNew; clear hNew
                have HBn := Lib.hid hBn; clear hBn HBc; have HBc := HBn; clear HBn
                clear hu3
                try simp only [Act.put, List.setIfInBounds_toArray, List.set_cons_zero, List.set_cons_succ]
                refine wpAnyH_take (i := 15) (oi := ⟨some 3, _, _, _, _, _⟩) (v := ?_) rfl (by kernel_rfl) (by kernel_rfl) (by kernel_rfl) (fun _ _ _ h => h) (Or.inl ⟨by rfl, ?_⟩) (by assumption) ?_
                rotate_left
                focus (intro w hSw; (try dsimp only at hSw); go_simp; first | done | with_reducible rfl)
                try simp only [Act.put, List.setIfInBounds_toArray, List.set_cons_zero, List.set_cons_succ]
                refine wpAnyH_done (by kernel_rfl) ?_ _
                go_wp2
                go_roundw
                case rel => exact ⟨n + 1, [] ++ [].take 0 ++ [x] ++ [].drop 0, by omega, by go_num, own_base HOWN.out HB.out.size, HUP.out, mem_more2 hlt HM.out HGX.out, by simp <;> omega, HB.out.trans (HBc.out.mono HB.out.size)⟩
                case measure => simp [intOf]; omega
              refine AllReadyH.cons (o := ⟨some 53, _, _, _, _, _⟩) rfl (fun K hK => ?_) AllReadyH.nil
              go_simp
              have hBn := HBc.out.alloc HBc.out.size (.cells #[.int .i64 x.a, .int .i64 x.b, .int .i64 x.c] 23)
              have hX := hb_new (W0.alloc (.cells #[] 23)) (.cells #[.int .i64 x.a, .int .i64 x.b, .int .i64 x.c] 23)
              try simp only [World.size_alloc] at hX
              refine hK.out _ _ (by exact ⟨Lib.hid hBn, (HA.out.below hBn hxw).1, (HA.out.below hBn hxw).2.1, (HA.out.below hBn hxw).2.2⟩) (fun hNew => ?_)
              clear hK K hHeld; have hHeld := hNew; clear hNew
              have HBn := Lib.hid hBn; clear hBn HBc; have HBc := HBn; clear HBn
              have HX := Lib.hid hX
              clear hX
              have HOWN2 := Lib.hid (HOWN.out.alloc (.cells #[.int .i64 x.a, .int .i64 x.b, .int .i64 x.c] 23))
              clear HOWN
              have HOWN := HOWN2
              clear HOWN2
              have hne : Value.ownBlock (.slice (some ⟨W0.heap.size, 0, none⟩) 0 0) ≠ some (W0.heap.size + 1) := by simp [Value.ownBlock]
              try simp only [Act.put, List.setIfInBounds_toArray, List.set_cons_zero, List.set_cons_succ]
              refine wpAnyH_ready (rs := [4]) (by kernel_rfl) (by simp) ?_
              refine AllReadyH.cons (o := ⟨some 48, _, _, _, _, _⟩) rfl (fun K hK => ?_) AllReadyH.nil
              obtain ⟨v1, W2, hu1, own1, hBn, hk1, hz1, hat1⟩ := append_step wq ((W0.alloc (.cells #[] 23)).alloc (.cells #[.int .i64 x.a, .int .i64 x.b, .int .i64 x.c] 23)) _ (.slice none 0 0) [] ([].take 0) HBc.out HOWN.out ((VRow.take HR2.out (Nat.le_refl _)).below HBc.out) (by simp <;> omega)
              have HOWN2 := Lib.hid own1
              clear HOWN own1
              have HOWN := HOWN2
              clear HOWN2
              have HX2 := Lib.hid (hk1 _ _ HX.out hne)
              clear HX hne
              have HX := HX2
              clear HX2
              clear hk1 hz1 hat1
              refine step_run_append rfl _ _ rfl rfl (by rfl) (by rfl) hu1 ?_
              refine hK.out _ _ (by exact ⟨Lib.hid hBn, (HA.out.below hBn hxw).1, (HA.out.below hBn hxw).2.1, (HA.out.below hBn hxw).2.2⟩) (fun hNew => ?_)
              clear hK K hHeld; have hHeld := hNew; clear hNew
              have HBn := Lib.hid hBn; clear hBn HBc; have HBc := HBn; clear HBn
              clear hu1
              try simp only [Act.put, List.setIfInBounds_toArray, List.set_cons_zero, List.set_cons_succ]
              refine wpAnyH_ready (rs := [10]) (by kernel_rfl) (by simp) ?_
              refine AllReadyH.cons (o := ⟨some 54, _, _, _, _, _⟩) rfl (fun K hK => ?_) AllReadyH.nil
              obtain ⟨v2, W4, hu2, own2, hBn, _, _, _⟩ := append_step wq W2 v1 (.slice (some ⟨W0.heap.size + 1, 0, none⟩) 1 1) ([] ++ [].take 0) [x] HBc.out HOWN.out (VRow.one HX.out) (by simp <;> omega)
              have HOWN2 := Lib.hid own2
              clear HOWN own2
              have HOWN := HOWN2
              clear HOWN2
              refine step_run_append rfl _ _ rfl rfl (by rfl) (by rfl) hu2 ?_
              refine hK.out _ _ (by exact ⟨Lib.hid hBn, (HA.out.below hBn hxw).1, (HA.out.below hBn hxw).2.1, (HA.out.below hBn hxw).2.2⟩) (fun hNew => ?_)
              clear hK K hHeld; have hHeld := hNew; clear hNew
              have HBn := Lib.hid hBn; clear hBn HBc; have HBc := HBn; clear HBn
              clear hu2
              try simp only [Act.put, List.setIfInBounds_toArray, List.set_cons_zero, List.set_cons_succ]
              refine wpAnyH_ready (rs := [14]) (by kernel_rfl) (by simp) ?_
              refine AllReadyH.cons (o := ⟨some 58, _, _, _, _, _⟩) rfl (fun K hK => ?_) AllReadyH.nil
              obtain ⟨v3, W5, hu3, own3, hBn, _, _, _⟩ := append_step wq W4 v2 (.slice none 0 0) ([] ++ [].take 0 ++ [x]) ([].drop 0) HBc.out HOWN.out (⟨none, 0, rfl, fun i x hx => by simp at hx⟩) (by simp <;> omega)
              have HOWN2 := Lib.hid own3
              clear HOWN own3
              have HOWN := HOWN2
              clear HOWN2
              refine step_run_append rfl _ _ rfl rfl (by rfl) (by rfl) hu3 ?_
              refine hK.out _ _ (by exact ⟨Lib.hid hBn, (HA.out.below hBn hxw).1, (HA.out.below hBn hxw).2.1, (HA.out.below hBn hxw).2.2⟩) (fun hNew => ?_)
              clear hK K hHeld; have hHeld := hNew; clear hNew
              have HBn := Lib.hid hBn; clear hBn HBc; have HBc := HBn; clear HBn
              clear hu3
              try simp only [Act.put, List.setIfInBounds_toArray, List.set_cons_zero, List.set_cons_succ]
              refine wpAnyH_take (i := 15) (oi := ⟨some 3, _, _, _, _, _⟩) (v := ?_) rfl (by kernel_rfl) (by kernel_rfl) (by kernel_rfl) (fun _ _ _ h => h) (Or.inl ⟨by rfl, ?_⟩) (by assumption) ?_
              rotate_left
              focus (intro w hSw; (try dsimp only at hSw); go_simp; first | done | with_reducible rfl)
              try simp only [Act.put, List.setIfInBounds_toArray, List.set_cons_zero, List.set_cons_succ]
              refine wpAnyH_done (by kernel_rfl) ?_ _
              go_wp2
              go_roundw
              case rel => exact ⟨n + 1, [] ++ [].take 0 ++ [x] ++ [].drop 0, by omega, by go_num, own_base HOWN.out HB.out.size, HUP.out, mem_more2 hlt HM.out HGX.out, by simp <;> omega, HB.out.trans (HBc.out.mono HB.out.size)⟩
              case measure => simp [intOf]; omega
            refine AllReadyH.cons (o := ⟨some 53, _, _, _, _, _⟩) rfl (fun K hK => ?_) AllReadyH.nil
            go_simp
            have hBn := HBc.out.alloc HBc.out.size (.cells #[.int .i64 x.a, .int .i64 x.b, .int .i64 x.c] 23)
            have hX := hb_new W0 (.cells #[.int .i64 x.a, .int .i64 x.b, .int .i64 x.c] 23)
            try simp only [World.size_alloc] at hX
            refine hK.out _ _ (by exact ⟨Lib.hid hBn, (HA.out.below hBn hxw).1, (HA.out.below hBn hxw).2.1, (HA.out.below hBn hxw).2.2⟩) (fun hNew => ?_)
            clear hK K hHeld; have hHeld := hNew; clear hNew
            have HBn := Lib.hid hBn; clear hBn HBc; have HBc := HBn; clear HBn
            have HX := Lib.hid hX
            clear hX
            try simp only [Act.put, List.setIfInBounds_toArray, List.set_cons_zero, List.set_cons_succ]
            refine wpAnyH_ready (rs := [0]) (by kernel_rfl) (by simp) ?_
            refine AllReadyH.cons (o := ⟨some 44, _, _, _, _, _⟩) rfl (fun K hK => ?_) AllReadyH.nil
            go_simp
            have hBn := HBc.out.alloc HBc.out.size (.cells #[] 23)
            have hOn := own_base (own_empty (W0.alloc (.cells #[.int .i64 x.a, .int .i64 x.b, .int .i64 x.c] 23))) HBc.out.size
            try simp only [World.size_alloc] at hOn
            refine hK.out _ _ (by exact ⟨Lib.hid hBn, (HA.out.below hBn hxw).1, (HA.out.below hBn hxw).2.1, (HA.out.below hBn hxw).2.2⟩) (fun hNew => ?_)
            clear hK K hHeld; have hHeld := hNew; clear hNew
            have HBn := Lib.hid hBn; clear hBn HBc; have HBc := HBn; clear HBn
            have HOWN := Lib.hid hOn
            clear hOn
            have HX2 := Lib.hid (hb_alloc HX.out (.cells #[] 23))
            clear HX
            have HX := HX2
            clear HX2
            have hne : Value.ownBlock (.slice (some ⟨W0.heap.size + 1, 0, none⟩) 0 0) ≠ some (W0.heap.size) := by simp [Value.ownBlock]
            try simp only [Act.put, List.setIfInBounds_toArray, List.set_cons_zero, List.set_cons_succ]
            refine wpAnyH_ready (rs := [4]) (by kernel_rfl) (by simp) ?_
            refine AllReadyH.cons (o := ⟨some 48, _, _, _, _, _⟩) rfl (fun K hK => ?_) AllReadyH.nil
            obtain ⟨v1, W2, hu1, own1, hBn, hk1, hz1, hat1⟩ := append_step wq ((W0.alloc (.cells #[.int .i64 x.a, .int .i64 x.b, .int .i64 x.c] 23)).alloc (.cells #[] 23)) _ (.slice none 0 0) [] ([].take 0) HBc.out HOWN.out ((VRow.take HR2.out (Nat.le_refl _)).below HBc.out) (by simp <;> omega)
            have HOWN2 := Lib.hid own1
            clear HOWN own1
            have HOWN := HOWN2
            clear HOWN2
            have HX2 := Lib.hid (hk1 _ _ HX.out hne)
            clear HX hne
            have HX := HX2
            clear HX2
            clear hk1 hz1 hat1
            refine step_run_append rfl _ _ rfl rfl (by rfl) (by rfl) hu1 ?_
            refine hK.out _ _ (by exact ⟨Lib.hid hBn, (HA.out.below hBn hxw).1, (HA.out.below hBn hxw).2.1, (HA.out.below hBn hxw).2.2⟩) (fun hNew => ?_)
            clear hK K hHeld; have hHeld := hNew; clear hNew
            have HBn := Lib.hid hBn; clear hBn HBc; have HBc := HBn; clear HBn
            clear hu1
            try simp only [Act.put, List.setIfInBounds_toArray, List.set_cons_zero, List.set_cons_succ]
            refine wpAnyH_ready (rs := [10]) (by kernel_rfl) (by simp) ?_
            refine AllReadyH.cons (o := ⟨some 54, _, _, _, _, _⟩) rfl (fun K hK => ?_) AllReadyH.nil
            obtain ⟨v2, W4, hu2, own2, hBn, _, _, _⟩ := append_step wq W2 v1 (.slice (some ⟨W0.heap.size, 0, none⟩) 1 1) ([] ++ [].take 0) [x] HBc.out HOWN.out (VRow.one HX.out) (by simp <;> omega)
            have HOWN2 := Lib.hid own2
            clear HOWN own2
            have HOWN := HOWN2
            clear HOWN2
            refine step_run_append rfl _ _ rfl rfl (by rfl) (by rfl) hu2 ?_
            refine hK.out _ _ (by exact ⟨Lib.hid hBn, (HA.out.below hBn hxw).1, (HA.out.below hBn hxw).2.1, (HA.out.below hBn hxw).2.2⟩) (fun hNew => ?_)
            clear hK K hHeld; have hHeld := hNew; clear hNew
            have HBn := Lib.hid hBn; clear hBn HBc; have HBc := HBn; clear HBn
            clear hu2
            try simp only [Act.put, List.setIfInBounds_toArray, List.set_cons_zero, List.set_cons_succ]
            refine wpAnyH_ready (rs := [14]) (by kernel_rfl) (by simp) ?_
            refine AllReadyH.cons (o := ⟨some 58, _, _, _, _, _⟩) rfl (fun K hK => ?_) AllReadyH.nil
            obtain ⟨v3, W5, hu3, own3, hBn, _, _, _⟩ := append_step wq W4 v2 (.slice none 0 0) ([] ++ [].take 0 ++ [x]) ([].drop 0) HBc.out HOWN.out (⟨none, 0, rfl, fun i x hx => by simp at hx⟩) (by simp <;> omega)
            have HOWN2 := Lib.hid own3
            clear HOWN own3
            have HOWN := HOWN2
            clear HOWN2
            refine step_run_append rfl _ _ rfl rfl (by rfl) (by rfl) hu3 ?_
            refine hK.out _ _ (by exact ⟨Lib.hid hBn, (HA.out.below hBn hxw).1, (HA.out.below hBn hxw).2.1, (HA.out.below hBn hxw).2.2⟩) (fun hNew => ?_)
            clear hK K hHeld; have hHeld := hNew; clear hNew
            have HBn := Lib.hid hBn; clear hBn HBc; have HBc := HBn; clear HBn
            clear hu3
            try simp only [Act.put, List.setIfInBounds_toArray, List.set_cons_zero, List.set_cons_succ]
            refine wpAnyH_take (i := 15) (oi := ⟨some 3, _, _, _, _, _⟩) (v := ?_) rfl (by kernel_rfl) (by kernel_rfl) (by kernel_rfl) (fun _ _ _ h => h) (Or.inl ⟨by rfl, ?_⟩) (by assumption) ?_
            rotate_left
            focus (intro w hSw; (try dsimp only at hSw); go_simp; first | done | with_reducible rfl)
            try simp only [Act.put, List.setIfInBounds_toArray, List.set_cons_zero, List.set_cons_succ]
            refine wpAnyH_done (by kernel_rfl) ?_ _
            go_wp2
            go_roundw
            case rel => exact ⟨n + 1, [] ++ [].take 0 ++ [x] ++ [].drop 0, by omega, by go_num, own_base HOWN.out HB.out.size, HUP.out, mem_more2 hlt HM.out HGX.out, by simp <;> omega, HB.out.trans (HBc.out.mono HB.out.size)⟩
            case measure => simp [intOf]; omega
          · subst hq0
            by_cases hck : c2 = L.length
            · subst hck
              obtain ⟨wz, hwz⟩ : ∃ wz, wz = wr.drew.drew := ⟨_, rfl⟩
              rw [← hwz] at hBz ⊢
              have hBz2 := below_drewN hBz 1
              clear hwz hBz
              refine wp_region_held_drew (S := (fun w' => RowKit.Hid (Below wq.heap.size wq w') ∧ w'.cell? ⟨b, o + n * 3, none⟩ = some (.int .i64 x.a) ∧ w'.cell? ⟨b, o + n * 3 + 1, none⟩ = some (.int .i64 x.b) ∧ w'.cell? ⟨b, o + n * 3 + 2, none⟩ = some (.int .i64 x.c))) (by kernel_rfl) (by exact ⟨Lib.hid hBz2, (HA.out.below hBz2 hxw).1, (HA.out.below hBz2 hxw).2.1, (HA.out.below hBz2 hxw).2.2⟩) (fun hHeld => ?_)
              change Below wq.heap.size wq wz.drew at hBz2
              generalize wz.drew = W0 at *
              have HB0 := Lib.hid hBz2
              clear hBz2
              have HBc := HB0
              clear HB0
              refine wpAnyH_take (i := 1) (oi := ⟨some 45, _, _, _, _, _⟩) (v := ?_) rfl (by kernel_rfl) (by kernel_rfl) (by kernel_rfl) (fun _ _ _ h => h) (Or.inl ⟨by rfl, ?_⟩) (by assumption) ?_
              rotate_left
              focus (intro w hSw; (try dsimp only at hSw); go_simp; first | done | with_reducible rfl)
              try simp only [Act.put, List.setIfInBounds_toArray, List.set_cons_zero, List.set_cons_succ]
              refine wpAnyH_take (i := 2) (oi := ⟨some 46, _, _, _, _, _⟩) (v := ?_) rfl (by kernel_rfl) (by kernel_rfl) (by kernel_rfl) (fun _ _ _ h => h) (Or.inl ⟨by rfl, ?_⟩) (by assumption) ?_
              rotate_left
              focus (intro w hSw; (try dsimp only at hSw); go_simp; first | done | with_reducible rfl)
              try simp only [Act.put, List.setIfInBounds_toArray, List.set_cons_zero, List.set_cons_succ]
              refine wpAnyH_take (i := 3) (oi := ⟨some 47, _, _, _, _, _⟩) (v := ?_) rfl (by kernel_rfl) (by kernel_rfl) (by kernel_rfl) (fun _ _ _ h => h) (Or.inl ⟨by rfl, ?_⟩) (by assumption) ?_
              rotate_left
              focus (intro w hSw; (try dsimp only at hSw); go_simp; first | done | with_reducible rfl)
              try simp only [Act.put, List.setIfInBounds_toArray, List.set_cons_zero, List.set_cons_succ]
              refine wpAnyH_take (i := 5) (oi := ⟨some 49, _, _, _, _, _⟩) (v := ?_) rfl (by kernel_rfl) (by kernel_rfl) (by kernel_rfl) (fun _ _ _ h => h) (Or.inl ⟨by rfl, ?_⟩) (by assumption) ?_
              rotate_left
              focus (intro w hSw; (try dsimp only at hSw); go_simp; first | done | with_reducible rfl)
              try simp only [Act.put, List.setIfInBounds_toArray, List.set_cons_zero, List.set_cons_succ]
              refine wpAnyH_take (i := 6) (oi := ⟨some 50, _, _, _, _, _⟩) (v := ?_) rfl (by kernel_rfl) (by kernel_rfl) (by kernel_rfl) (fun _ _ _ h => h) (Or.inl ⟨by rfl, ?_⟩) (by assumption) ?_
              rotate_left
              focus (intro w hSw; (try dsimp only at hSw); go_simp; first | done | with_reducible rfl)
              try simp only [Act.put, List.setIfInBounds_toArray, List.set_cons_zero, List.set_cons_succ]
              refine wpAnyH_take (i := 7) (oi := ⟨some 51, _, _, _, _, _⟩) (v := ?_) rfl (by kernel_rfl) (by kernel_rfl) (by kernel_rfl) (fun _ _ _ h => h) (Or.inl ⟨by rfl, ?_⟩) (by assumption) ?_
              rotate_left
              focus (intro w hSw; (try dsimp only at hSw); go_simp; first | done | with_reducible rfl)
              try simp only [Act.put, List.setIfInBounds_toArray, List.set_cons_zero, List.set_cons_succ]
              refine wpAnyH_take (i := 8) (oi := ⟨some 52, _, _, _, _, _⟩) (v := ?_) rfl (by kernel_rfl) (by kernel_rfl) (by kernel_rfl) (fun _ _ _ h => h) (Or.inl ⟨by rfl, ?_⟩) (by assumption) ?_
              rotate_left
              focus (intro w hSw; (try dsimp only at hSw); go_simp; first | done | with_reducible rfl)
              try simp only [Act.put, List.setIfInBounds_toArray, List.set_cons_zero, List.set_cons_succ]
              refine wpAnyH_take (i := 11) (oi := ⟨some 55, _, _, _, _, _⟩) (v := ?_) rfl (by kernel_rfl) (by kernel_rfl) (by kernel_rfl) (fun _ _ _ h => h) (Or.inl ⟨by rfl, ?_⟩) (by assumption) ?_
              rotate_left
              focus (intro w hSw; (try dsimp only at hSw); go_simp; first | done | with_reducible rfl)
              try simp only [Act.put, List.setIfInBounds_toArray, List.set_cons_zero, List.set_cons_succ]
              refine wpAnyH_take (i := 12) (oi := ⟨some 56, _, _, _, _, _⟩) (v := ?_) rfl (by kernel_rfl) (by kernel_rfl) (by kernel_rfl) (fun _ _ _ h => h) (Or.inl ⟨by rfl, ?_⟩) (by assumption) ?_
              rotate_left
              focus (intro w hSw; (try dsimp only at hSw); go_simp; first | done | with_reducible rfl)
              try simp only [Act.put, List.setIfInBounds_toArray, List.set_cons_zero, List.set_cons_succ]
              refine wpAnyH_take (i := 13) (oi := ⟨some 57, _, _, _, _, _⟩) (v := ?_) rfl (by kernel_rfl) (by kernel_rfl) (by kernel_rfl) (fun _ _ _ h => h) (Or.inl ⟨by rfl, ?_⟩) (by assumption) ?_
              rotate_left
              focus (intro w hSw; (try dsimp only at hSw); go_simp; first | done | with_reducible rfl)
              try simp only [Act.put, List.setIfInBounds_toArray, List.set_cons_zero, List.set_cons_succ]
              refine wpAnyH_ready (rs := [0, 9]) (by kernel_rfl) (by simp) ?_
              refine AllReadyH.cons (o := ⟨some 44, _, _, _, _, _⟩) rfl (fun K hK => ?_) ?_
              focus
                go_simp
                have hBn := HBc.out.alloc HBc.out.size (.cells #[] 23)
                have hOn := own_base (own_empty W0) HBc.out.size
                try simp only [World.size_alloc] at hOn
                refine hK.out _ _ (by exact ⟨Lib.hid hBn, (HA.out.below hBn hxw).1, (HA.out.below hBn hxw).2.1, (HA.out.below hBn hxw).2.2⟩) (fun hNew => ?_)
                clear hK K hHeld; have hHeld := hNew; clear hNew
                have HBn := Lib.hid hBn; clear hBn HBc; have HBc := HBn; clear HBn
                have HOWN := Lib.hid hOn
                clear hOn
                try simp only [Act.put, List.setIfInBounds_toArray, List.set_cons_zero, List.set_cons_succ]
                refine wpAnyH_ready (rs := [4, 9]) (by kernel_rfl) (by simp) ?_
                refine AllReadyH.cons (o := ⟨some 48, _, _, _, _, _⟩) rfl (fun K hK => ?_) ?_
                focus
                  obtain ⟨v1, W2, hu1, own1, hBn, hk1, hz1, hat1⟩ := append_step wq (W0.alloc (.cells #[] 23)) _ (.slice (some ⟨g, 0, none⟩) L.length L.length) [] (L.take L.length) HBc.out HOWN.out ((VRow.take HR2.out (Nat.le_refl _)).below HBc.out) (by simp <;> omega)
                  have HOWN2 := Lib.hid own1
                  clear HOWN own1
                  have HOWN := HOWN2
                  clear HOWN2
                  clear hk1 hz1 hat1
                  refine step_run_append rfl _ _ rfl rfl (by rfl) (by rfl) hu1 ?_
                  refine hK.out _ _ (by exact ⟨Lib.hid hBn, (HA.out.below hBn hxw).1, (HA.out.below hBn hxw).2.1, (HA.out.below hBn hxw).2.2⟩) (fun hNew => ?_)
                  clear hK K hHeld; have hHeld := hNew; clear hNew
                  have HBn := Lib.hid hBn; clear hBn HBc; have HBc := HBn; clear HBn
                  clear hu1
                  try simp only [Act.put, List.setIfInBounds_toArray, List.set_cons_zero, List.set_cons_succ]
                  refine wpAnyH_ready (rs := [9]) (by kernel_rfl) (by simp) ?_
                  refine AllReadyH.cons (o := ⟨some 53, _, _, _, _, _⟩) rfl (fun K hK => ?_) AllReadyH.nil
                  go_simp
                  have hBn := HBc.out.alloc HBc.out.size (.cells #[.int .i64 x.a, .int .i64 x.b, .int .i64 x.c] 23)
                  have hX := hb_new W2 (.cells #[.int .i64 x.a, .int .i64 x.b, .int .i64 x.c] 23)
                  try simp only [World.size_alloc] at hX
                  refine hK.out _ _ (by exact ⟨Lib.hid hBn, (HA.out.below hBn hxw).1, (HA.out.below hBn hxw).2.1, (HA.out.below hBn hxw).2.2⟩) (fun hNew => ?_)
                  clear hK K hHeld; have hHeld := hNew; clear hNew
                  have HBn := Lib.hid hBn; clear hBn HBc; have HBc := HBn; clear HBn
                  have HX := Lib.hid hX
                  clear hX
                  have HOWN2 := Lib.hid (HOWN.out.alloc (.cells #[.int .i64 x.a, .int .i64 x.b, .int .i64 x.c] 23))
                  clear HOWN
                  have HOWN := HOWN2
                  clear HOWN2
                  try simp only [Act.put, List.setIfInBounds_toArray, List.set_cons_zero, List.set_cons_succ]
                  refine wpAnyH_ready (rs := [10]) (by kernel_rfl) (by simp) ?_
                  refine AllReadyH.cons (o := ⟨some 54, _, _, _, _, _⟩) rfl (fun K hK => ?_) AllReadyH.nil
                  obtain ⟨v2, W4, hu2, own2, hBn, _, _, _⟩ := append_step wq (W2.alloc (.cells #[.int .i64 x.a, .int .i64 x.b, .int .i64 x.c] 23)) v1 (.slice (some ⟨W2.heap.size, 0, none⟩) 1 1) ([] ++ L.take L.length) [x] HBc.out HOWN.out (VRow.one HX.out) (by simp <;> omega)
                  have HOWN2 := Lib.hid own2
                  clear HOWN own2
                  have HOWN := HOWN2
                  clear HOWN2
                  refine step_run_append rfl _ _ rfl rfl (by rfl) (by rfl) hu2 ?_
                  refine hK.out _ _ (by exact ⟨Lib.hid hBn, (HA.out.below hBn hxw).1, (HA.out.below hBn hxw).2.1, (HA.out.below hBn hxw).2.2⟩) (fun hNew => ?_)
                  clear hK K hHeld; have hHeld := hNew; clear hNew
                  have HBn := Lib.hid hBn; clear hBn HBc; have HBc := HBn; clear HBn
                  clear hu2
                  try simp only [Act.put, List.setIfInBounds_toArray, List.set_cons_zero, List.set_cons_succ]
                  refine wpAnyH_ready (rs := [14]) (by kernel_rfl) (by simp) ?_
                  refine AllReadyH.cons (o := ⟨some 58, _, _, _, _, _⟩) rfl (fun K hK => ?_) AllReadyH.nil
                  obtain ⟨v3, W5, hu3, own3, hBn, _, _, _⟩ := append_step wq W4 v2 (.slice (some ⟨g, 0, none⟩) 0 0) ([] ++ L.take L.length ++ [x]) (L.drop L.length) HBc.out HOWN.out (by rw [List.drop_length]; exact ⟨_, _, rfl, fun i x hx => by simp at hx⟩) (by simp <;> omega)
                  have HOWN2 := Lib.hid own3
                  clear HOWN own3
                  have HOWN := HOWN2
                  clear HOWN2
                  refine step_run_append rfl _ _ rfl rfl (by rfl) (by rfl) hu3 ?_
                  refine hK.out _ _ (by exact ⟨Lib.hid hBn, (HA.out.below hBn hxw).1, (HA.out.below hBn hxw).2.1, (HA.out.below hBn hxw).2.2⟩) (fun hNew => ?_)
                  clear hK K hHeld; have hHeld := hNew; clear hNew
                  have HBn := Lib.hid hBn; clear hBn HBc; have HBc := HBn; clear HBn
                  clear hu3
                  try simp only [Act.put, List.setIfInBounds_toArray, List.set_cons_zero, List.set_cons_succ]
                  refine wpAnyH_take (i := 15) (oi := ⟨some 3, _, _, _, _, _⟩) (v := ?_) rfl (by kernel_rfl) (by kernel_rfl) (by kernel_rfl) (fun _ _ _ h => h) (Or.inl ⟨by rfl, ?_⟩) (by assumption) ?_
                  rotate_left
                  focus (intro w hSw; (try dsimp only at hSw); go_simp; first | done | with_reducible rfl)
                  try simp only [Act.put, List.setIfInBounds_toArray, List.set_cons_zero, List.set_cons_succ]
                  refine wpAnyH_done (by kernel_rfl) ?_ _
                  go_wp2
                  go_roundw
                  case rel => exact ⟨n + 1, [] ++ L.take L.length ++ [x] ++ L.drop L.length, by omega, by go_num, own_base HOWN.out HB.out.size, HUP.out, mem_more2 hlt HM.out HGX.out, by simp <;> omega, HB.out.trans (HBc.out.mono HB.out.size)⟩
                  case measure => simp [intOf]; omega
                refine AllReadyH.cons (o := ⟨some 53, _, _, _, _, _⟩) rfl (fun K hK => ?_) AllReadyH.nil
                go_simp
                have hBn := HBc.out.alloc HBc.out.size (.cells #[.int .i64 x.a, .int .i64 x.b, .int .i64 x.c] 23)
                have hX := hb_new (W0.alloc (.cells #[] 23)) (.cells #[.int .i64 x.a, .int .i64 x.b, .int .i64 x.c] 23)
                try simp only [World.size_alloc] at hX
                refine hK.out _ _ (by exact ⟨Lib.hid hBn, (HA.out.below hBn hxw).1, (HA.out.below hBn hxw).2.1, (HA.out.below hBn hxw).2.2⟩) (fun hNew => ?_)
                clear hK K hHeld; have hHeld := hNew; clear hNew
                have HBn := Lib.hid hBn; clear hBn HBc; have HBc := HBn; clear HBn
                have HX := Lib.hid hX
                clear hX
                have HOWN2 := Lib.hid (HOWN.out.alloc (.cells #[.int .i64 x.a, .int .i64 x.b, .int .i64 x.c] 23))
                clear HOWN
                have HOWN := HOWN2
                clear HOWN2
                have hne : Value.ownBlock (.slice (some ⟨W0.heap.size, 0, none⟩) 0 0) ≠ some (W0.heap.size + 1) := by simp [Value.ownBlock]
                try simp only [Act.put, List.setIfInBounds_toArray, List.set_cons_zero, List.set_cons_succ]
                refine wpAnyH_ready (rs := [4]) (by kernel_rfl) (by simp) ?_
                refine AllReadyH.cons (o := ⟨some 48, _, _, _, _, _⟩) rfl (fun K hK => ?_) AllReadyH.nil
                obtain ⟨v1, W2, hu1, own1, hBn, hk1, hz1, hat1⟩ := append_step wq ((W0.alloc (.cells #[] 23)).alloc (.cells #[.int .i64 x.a, .int .i64 x.b, .int .i64 x.c] 23)) _ (.slice (some ⟨g, 0, none⟩) L.length L.length) [] (L.take L.length) HBc.out HOWN.out ((VRow.take HR2.out (Nat.le_refl _)).below HBc.out) (by simp <;> omega)
                have HOWN2 := Lib.hid own1
                clear HOWN own1
                have HOWN := HOWN2
                clear HOWN2
                have HX2 := Lib.hid (hk1 _ _ HX.out hne)
                clear HX hne
                have HX := HX2
                clear HX2
                clear hk1 hz1 hat1
                refine step_run_append rfl _ _ rfl rfl (by rfl) (by rfl) hu1 ?_
                refine hK.out _ _ (by exact ⟨Lib.hid hBn, (HA.out.below hBn hxw).1, (HA.out.below hBn hxw).2.1, (HA.out.below hBn hxw).2.2⟩) (fun hNew => ?_)
                clear hK K hHeld; have hHeld := hNew; clear hNew
                have HBn := Lib.hid hBn; clear hBn HBc; have HBc := HBn; clear HBn
                clear hu1
                try simp only [Act.put, List.setIfInBounds_toArray, List.set_cons_zero, List.set_cons_succ]
                refine wpAnyH_ready (rs := [10]) (by kernel_rfl) (by simp) ?_
                refine AllReadyH.cons (o := ⟨some 54, _, _, _, _, _⟩) rfl (fun K hK => ?_) AllReadyH.nil
                obtain ⟨v2, W4, hu2, own2, hBn, _, _, _⟩ := append_step wq W2 v1 (.slice (some ⟨W0.heap.size + 1, 0, none⟩) 1 1) ([] ++ L.take L.length) [x] HBc.out HOWN.out (VRow.one HX.out) (by simp <;> omega)
                have HOWN2 := Lib.hid own2
                clear HOWN own2
                have HOWN := HOWN2
                clear HOWN2
                refine step_run_append rfl _ _ rfl rfl (by rfl) (by rfl) hu2 ?_
                refine hK.out _ _ (by exact ⟨Lib.hid hBn, (HA.out.below hBn hxw).1, (HA.out.below hBn hxw).2.1, (HA.out.below hBn hxw).2.2⟩) (fun hNew => ?_)
                clear hK K hHeld; have hHeld := hNew; clear hNew
                have HBn := Lib.hid hBn; clear hBn HBc; have HBc := HBn; clear HBn
                clear hu2
                try simp only [Act.put, List.setIfInBounds_toArray, List.set_cons_zero, List.set_cons_succ]
                refine wpAnyH_ready (rs := [14]) (by kernel_rfl) (by simp) ?_
                refine AllReadyH.cons (o := ⟨some 58, _, _, _, _, _⟩) rfl (fun K hK => ?_) AllReadyH.nil
                obtain ⟨v3, W5, hu3, own3, hBn, _, _, _⟩ := append_step wq W4 v2 (.slice (some ⟨g, 0, none⟩) 0 0) ([] ++ L.take L.length ++ [x]) (L.drop L.length) HBc.out HOWN.out (by rw [List.drop_length]; exact ⟨_, _, rfl, fun i x hx => by simp at hx⟩) (by simp <;> omega)
                have HOWN2 := Lib.hid own3
                clear HOWN own3
                have HOWN := HOWN2
                clear HOWN2
                refine step_run_append rfl _ _ rfl rfl (by rfl) (by rfl) hu3 ?_
                refine hK.out _ _ (by exact ⟨Lib.hid hBn, (HA.out.below hBn hxw).1, (HA.out.below hBn hxw).2.1, (HA.out.below hBn hxw).2.2⟩) (fun hNew => ?_)
                clear hK K hHeld; have hHeld := hNew; clear hNew
                have HBn := Lib.hid hBn; clear hBn HBc; have HBc := HBn; clear HBn
                clear hu3
                try simp only [Act.put, List.setIfInBounds_toArray, List.set_cons_zero, List.set_cons_succ]
                refine wpAnyH_take (i := 15) (oi := ⟨some 3, _, _, _, _, _⟩) (v := ?_) rfl (by kernel_rfl) (by kernel_rfl) (by kernel_rfl) (fun _ _ _ h => h) (Or.inl ⟨by rfl, ?_⟩) (by assumption) ?_
                rotate_left
                focus (intro w hSw; (try dsimp only at hSw); go_simp; first | done | with_reducible rfl)
                try simp only [Act.put, List.setIfInBounds_toArray, List.set_cons_zero, List.set_cons_succ]
                refine wpAnyH_done (by kernel_rfl) ?_ _
                go_wp2
                go_roundw
                case rel => exact ⟨n + 1, [] ++ L.take L.length ++ [x] ++ L.drop L.length, by omega, by go_num, own_base HOWN.out HB.out.size, HUP.out, mem_more2 hlt HM.out HGX.out, by simp <;> omega, HB.out.trans (HBc.out.mono HB.out.size)⟩
                case measure => simp [intOf]; omega
              refine AllReadyH.cons (o := ⟨some 53, _, _, _, _, _⟩) rfl (fun K hK => ?_) AllReadyH.nil
              go_simp
              have hBn := HBc.out.alloc HBc.out.size (.cells #[.int .i64 x.a, .int .i64 x.b, .int .i64 x.c] 23)
              have hX := hb_new W0 (.cells #[.int .i64 x.a, .int .i64 x.b, .int .i64 x.c] 23)
              try simp only [World.size_alloc] at hX
              refine hK.out _ _ (by exact ⟨Lib.hid hBn, (HA.out.below hBn hxw).1, (HA.out.below hBn hxw).2.1, (HA.out.below hBn hxw).2.2⟩) (fun hNew => ?_)
              clear hK K hHeld; have hHeld := hNew; clear hNew
              have HBn := Lib.hid hBn; clear hBn HBc; have HBc := HBn; clear HBn
              have HX := Lib.hid hX
              clear hX
              try simp only [Act.put, List.setIfInBounds_toArray, List.set_cons_zero, List.set_cons_succ]
              refine wpAnyH_ready (rs := [0]) (by kernel_rfl) (by simp) ?_
              refine AllReadyH.cons (o := ⟨some 44, _, _, _, _, _⟩) rfl (fun K hK => ?_) AllReadyH.nil
              go_simp
              have hBn := HBc.out.alloc HBc.out.size (.cells #[] 23)
              have hOn := own_base (own_empty (W0.alloc (.cells #[.int .i64 x.a, .int .i64 x.b, .int .i64 x.c] 23))) HBc.out.size
              try simp only [World.size_alloc] at hOn
              refine hK.out _ _ (by exact ⟨Lib.hid hBn, (HA.out.below hBn hxw).1, (HA.out.below hBn hxw).2.1, (HA.out.below hBn hxw).2.2⟩) (fun hNew => ?_)
              clear hK K hHeld; have hHeld := hNew; clear hNew
              have HBn := Lib.hid hBn; clear hBn HBc; have HBc := HBn; clear HBn
              have HOWN := Lib.hid hOn
              clear hOn
              have HX2 := Lib.hid (hb_alloc HX.out (.cells #[] 23))
              clear HX
              have HX := HX2
              clear HX2
              have hne : Value.ownBlock (.slice (some ⟨W0.heap.size + 1, 0, none⟩) 0 0) ≠ some (W0.heap.size) := by simp [Value.ownBlock]
              try simp only [Act.put, List.setIfInBounds_toArray, List.set_cons_zero, List.set_cons_succ]
              refine wpAnyH_ready (rs := [4]) (by kernel_rfl) (by simp) ?_
              refine AllReadyH.cons (o := ⟨some 48, _, _, _, _, _⟩) rfl (fun K hK => ?_) AllReadyH.nil
              obtain ⟨v1, W2, hu1, own1, hBn, hk1, hz1, hat1⟩ := append_step wq ((W0.alloc (.cells #[.int .i64 x.a, .int .i64 x.b, .int .i64 x.c] 23)).alloc (.cells #[] 23)) _ (.slice (some ⟨g, 0, none⟩) L.length L.length) [] (L.take L.length) HBc.out HOWN.out ((VRow.take HR2.out (Nat.le_refl _)).below HBc.out) (by simp <;> omega)
              have HOWN2 := Lib.hid own1
              clear HOWN own1
              have HOWN := HOWN2
              clear HOWN2
              have HX2 := Lib.hid (hk1 _ _ HX.out hne)
              clear HX hne
              have HX := HX2
              clear HX2
              clear hk1 hz1 hat1
              refine step_run_append rfl _ _ rfl rfl (by rfl) (by rfl) hu1 ?_
              refine hK.out _ _ (by exact ⟨Lib.hid hBn, (HA.out.below hBn hxw).1, (HA.out.below hBn hxw).2.1, (HA.out.below hBn hxw).2.2⟩) (fun hNew => ?_)
              clear hK K hHeld; have hHeld := hNew; clear hNew
              have HBn := Lib.hid hBn; clear hBn HBc; have HBc := HBn; clear HBn
              clear hu1
              try simp only [Act.put, List.setIfInBounds_toArray, List.set_cons_zero, List.set_cons_succ]
              refine wpAnyH_ready (rs := [10]) (by kernel_rfl) (by simp) ?_
              refine AllReadyH.cons (o := ⟨some 54, _, _, _, _, _⟩) rfl (fun K hK => ?_) AllReadyH.nil
              obtain ⟨v2, W4, hu2, own2, hBn, _, _, _⟩ := append_step wq W2 v1 (.slice (some ⟨W0.heap.size, 0, none⟩) 1 1) ([] ++ L.take L.length) [x] HBc.out HOWN.out (VRow.one HX.out) (by simp <;> omega)
              have HOWN2 := Lib.hid own2
              clear HOWN own2
              have HOWN := HOWN2
              clear HOWN2
              refine step_run_append rfl _ _ rfl rfl (by rfl) (by rfl) hu2 ?_
              refine hK.out _ _ (by exact ⟨Lib.hid hBn, (HA.out.below hBn hxw).1, (HA.out.below hBn hxw).2.1, (HA.out.below hBn hxw).2.2⟩) (fun hNew => ?_)
              clear hK K hHeld; have hHeld := hNew; clear hNew
              have HBn := Lib.hid hBn; clear hBn HBc; have HBc := HBn; clear HBn
              clear hu2
              try simp only [Act.put, List.setIfInBounds_toArray, List.set_cons_zero, List.set_cons_succ]
              refine wpAnyH_ready (rs := [14]) (by kernel_rfl) (by simp) ?_
              refine AllReadyH.cons (o := ⟨some 58, _, _, _, _, _⟩) rfl (fun K hK => ?_) AllReadyH.nil
              obtain ⟨v3, W5, hu3, own3, hBn, _, _, _⟩ := append_step wq W4 v2 (.slice (some ⟨g, 0, none⟩) 0 0) ([] ++ L.take L.length ++ [x]) (L.drop L.length) HBc.out HOWN.out (by rw [List.drop_length]; exact ⟨_, _, rfl, fun i x hx => by simp at hx⟩) (by simp <;> omega)
              have HOWN2 := Lib.hid own3
              clear HOWN own3
              have HOWN := HOWN2
              clear HOWN2
              refine step_run_append rfl _ _ rfl rfl (by rfl) (by rfl) hu3 ?_
              refine hK.out _ _ (by exact ⟨Lib.hid hBn, (HA.out.below hBn hxw).1, (HA.out.below hBn hxw).2.1, (HA.out.below hBn hxw).2.2⟩) (fun hNew => ?_)
              clear hK K hHeld; have hHeld := hNew; clear hNew
              have HBn := Lib.hid hBn; clear hBn HBc; have HBc := HBn; clear HBn
              clear hu3
              try simp only [Act.put, List.setIfInBounds_toArray, List.set_cons_zero, List.set_cons_succ]
              refine wpAnyH_take (i := 15) (oi := ⟨some 3, _, _, _, _, _⟩) (v := ?_) rfl (by kernel_rfl) (by kernel_rfl) (by kernel_rfl) (fun _ _ _ h => h) (Or.inl ⟨by rfl, ?_⟩) (by assumption) ?_
              rotate_left
              focus (intro w hSw; (try dsimp only at hSw); go_simp; first | done | with_reducible rfl)
              try simp only [Act.put, List.setIfInBounds_toArray, List.set_cons_zero, List.set_cons_succ]
              refine wpAnyH_done (by kernel_rfl) ?_ _
              go_wp2
              go_roundw
              case rel => exact ⟨n + 1, [] ++ L.take L.length ++ [x] ++ L.drop L.length, by omega, by go_num, own_base HOWN.out HB.out.size, HUP.out, mem_more2 hlt HM.out HGX.out, by simp <;> omega, HB.out.trans (HBc.out.mono HB.out.size)⟩
              case measure => simp [intOf]; omega
            · have hkc : L.length ≤ c2 := hc2
              obtain ⟨wz, hwz⟩ : ∃ wz, wz = wr.drew.drew := ⟨_, rfl⟩
              rw [← hwz] at hBz ⊢
              have hBz2 := below_drewN hBz 1
              clear hwz hBz
              refine wp_region_held_drew (S := (fun w' => RowKit.Hid (Below wq.heap.size wq w') ∧ w'.cell? ⟨b, o + n * 3, none⟩ = some (.int .i64 x.a) ∧ w'.cell? ⟨b, o + n * 3 + 1, none⟩ = some (.int .i64 x.b) ∧ w'.cell? ⟨b, o + n * 3 + 2, none⟩ = some (.int .i64 x.c))) (by kernel_rfl) (by exact ⟨Lib.hid hBz2, (HA.out.below hBz2 hxw).1, (HA.out.below hBz2 hxw).2.1, (HA.out.below hBz2 hxw).2.2⟩) (fun hHeld => ?_)
              change Below wq.heap.size wq wz.drew at hBz2
              generalize wz.drew = W0 at *
              have HB0 := Lib.hid hBz2
              clear hBz2
              have HBc := HB0
              clear HB0
              refine wpAnyH_take (i := 1) (oi := ⟨some 45, _, _, _, _, _⟩) (v := ?_) rfl (by kernel_rfl) (by kernel_rfl) (by kernel_rfl) (fun _ _ _ h => h) (Or.inl ⟨by rfl, ?_⟩) (by assumption) ?_
              rotate_left
              focus (intro w hSw; (try dsimp only at hSw); go_simp; first | done | with_reducible rfl)
              try simp only [Act.put, List.setIfInBounds_toArray, List.set_cons_zero, List.set_cons_succ]
              refine wpAnyH_take (i := 2) (oi := ⟨some 46, _, _, _, _, _⟩) (v := ?_) rfl (by kernel_rfl) (by kernel_rfl) (by kernel_rfl) (fun _ _ _ h => h) (Or.inl ⟨by rfl, ?_⟩) (by assumption) ?_
              rotate_left
              focus (intro w hSw; (try dsimp only at hSw); go_simp; first | done | with_reducible rfl)
              try simp only [Act.put, List.setIfInBounds_toArray, List.set_cons_zero, List.set_cons_succ]
              refine wpAnyH_take (i := 3) (oi := ⟨some 47, _, _, _, _, _⟩) (v := ?_) rfl (by kernel_rfl) (by kernel_rfl) (by kernel_rfl) (fun _ _ _ h => h) (Or.inl ⟨by rfl, ?_⟩) (by assumption) ?_
              rotate_left
              focus (intro w hSw; (try dsimp only at hSw); go_simp; first | done | with_reducible rfl)
              try simp only [Act.put, List.setIfInBounds_toArray, List.set_cons_zero, List.set_cons_succ]
              refine wpAnyH_take (i := 5) (oi := ⟨some 49, _, _, _, _, _⟩) (v := ?_) rfl (by kernel_rfl) (by kernel_rfl) (by kernel_rfl) (fun _ _ _ h => h) (Or.inl ⟨by rfl, ?_⟩) (by assumption) ?_
              rotate_left
              focus (intro w hSw; (try dsimp only at hSw); go_simp; first | done | with_reducible rfl)
              try simp only [Act.put, List.setIfInBounds_toArray, List.set_cons_zero, List.set_cons_succ]
              refine wpAnyH_take (i := 6) (oi := ⟨some 50, _, _, _, _, _⟩) (v := ?_) rfl (by kernel_rfl) (by kernel_rfl) (by kernel_rfl) (fun _ _ _ h => h) (Or.inl ⟨by rfl, ?_⟩) (by assumption) ?_
              rotate_left
              focus (intro w hSw; (try dsimp only at hSw); go_simp; first | done | with_reducible rfl)
              try simp only [Act.put, List.setIfInBounds_toArray, List.set_cons_zero, List.set_cons_succ]
              refine wpAnyH_take (i := 7) (oi := ⟨some 51, _, _, _, _, _⟩) (v := ?_) rfl (by kernel_rfl) (by kernel_rfl) (by kernel_rfl) (fun _ _ _ h => h) (Or.inl ⟨by rfl, ?_⟩) (by assumption) ?_
              rotate_left
              focus (intro w hSw; (try dsimp only at hSw); go_simp; first | done | with_reducible rfl)
              try simp only [Act.put, List.setIfInBounds_toArray, List.set_cons_zero, List.set_cons_succ]
              refine wpAnyH_take (i := 8) (oi := ⟨some 52, _, _, _, _, _⟩) (v := ?_) rfl (by kernel_rfl) (by kernel_rfl) (by kernel_rfl) (fun _ _ _ h => h) (Or.inl ⟨by rfl, ?_⟩) (by assumption) ?_
              rotate_left
              focus (intro w hSw; (try dsimp only at hSw); go_simp; first | done | with_reducible rfl)
              try simp only [Act.put, List.setIfInBounds_toArray, List.set_cons_zero, List.set_cons_succ]
              refine wpAnyH_take (i := 11) (oi := ⟨some 55, _, _, _, _, _⟩) (v := ?_) rfl (by kernel_rfl) (by kernel_rfl) (by kernel_rfl) (fun _ _ _ h => h) (Or.inl ⟨by rfl, ?_⟩) (by assumption) ?_
              rotate_left
              focus (intro w hSw; (try dsimp only at hSw); go_simp; first | done | with_reducible rfl)
              try simp only [Act.put, List.setIfInBounds_toArray, List.set_cons_zero, List.set_cons_succ]
              refine wpAnyH_take (i := 12) (oi := ⟨some 56, _, _, _, _, _⟩) (v := ?_) rfl (by kernel_rfl) (by kernel_rfl) (by kernel_rfl) (fun _ _ _ h => h) (Or.inl ⟨by rfl, ?_⟩) (by assumption) ?_
              rotate_left
              focus (intro w hSw; (try dsimp only at hSw); go_simp; first | done | with_reducible rfl)
              try simp only [Act.put, List.setIfInBounds_toArray, List.set_cons_zero, List.set_cons_succ]
              refine wpAnyH_take (i := 13) (oi := ⟨some 57, _, _, _, _, _⟩) (v := ?_) rfl (by kernel_rfl) (by kernel_rfl) (by kernel_rfl) (fun _ _ _ h => h) (Or.inl ⟨by rfl, ?_⟩) (by assumption) ?_
              rotate_left
              focus (intro w hSw; (try dsimp only at hSw); go_simp; first | done | with_reducible rfl)
              try simp only [Act.put, List.setIfInBounds_toArray, List.set_cons_zero, List.set_cons_succ]
              refine wpAnyH_ready (rs := [0, 9]) (by kernel_rfl) (by simp) ?_
              refine AllReadyH.cons (o := ⟨some 44, _, _, _, _, _⟩) rfl (fun K hK => ?_) ?_
              focus
                go_simp
                have hBn := HBc.out.alloc HBc.out.size (.cells #[] 23)
                have hOn := own_base (own_empty W0) HBc.out.size
                try simp only [World.size_alloc] at hOn
                refine hK.out _ _ (by exact ⟨Lib.hid hBn, (HA.out.below hBn hxw).1, (HA.out.below hBn hxw).2.1, (HA.out.below hBn hxw).2.2⟩) (fun hNew => ?_)
                clear hK K hHeld; have hHeld := hNew; clear hNew
                have HBn := Lib.hid hBn; clear hBn HBc; have HBc := HBn; clear HBn
                have HOWN := Lib.hid hOn
                clear hOn
                try simp only [Act.put, List.setIfInBounds_toArray, List.set_cons_zero, List.set_cons_succ]
                refine wpAnyH_ready (rs := [4, 9]) (by kernel_rfl) (by simp) ?_
                refine AllReadyH.cons (o := ⟨some 48, _, _, _, _, _⟩) rfl (fun K hK => ?_) ?_
                focus
                  obtain ⟨v1, W2, hu1, own1, hBn, hk1, hz1, hat1⟩ := append_step wq (W0.alloc (.cells #[] 23)) _ (.slice (some ⟨g, 0, none⟩) L.length c2) [] (L.take L.length) HBc.out HOWN.out ((VRow.take HR2.out (Nat.le_refl _)).below HBc.out) (by simp <;> omega)
                  have HOWN2 := Lib.hid own1
                  clear HOWN own1
                  have HOWN := HOWN2
                  clear HOWN2
                  clear hk1 hz1 hat1
                  refine step_run_append rfl _ _ rfl rfl (by rfl) (by rfl) hu1 ?_
                  refine hK.out _ _ (by exact ⟨Lib.hid hBn, (HA.out.below hBn hxw).1, (HA.out.below hBn hxw).2.1, (HA.out.below hBn hxw).2.2⟩) (fun hNew => ?_)
                  clear hK K hHeld; have hHeld := hNew; clear hNew
                  have HBn := Lib.hid hBn; clear hBn HBc; have HBc := HBn; clear HBn
                  clear hu1
                  try simp only [Act.put, List.setIfInBounds_toArray, List.set_cons_zero, List.set_cons_succ]
                  refine wpAnyH_ready (rs := [9]) (by kernel_rfl) (by simp) ?_
                  refine AllReadyH.cons (o := ⟨some 53, _, _, _, _, _⟩) rfl (fun K hK => ?_) AllReadyH.nil
                  go_simp
                  have hBn := HBc.out.alloc HBc.out.size (.cells #[.int .i64 x.a, .int .i64 x.b, .int .i64 x.c] 23)
                  have hX := hb_new W2 (.cells #[.int .i64 x.a, .int .i64 x.b, .int .i64 x.c] 23)
                  try simp only [World.size_alloc] at hX
                  refine hK.out _ _ (by exact ⟨Lib.hid hBn, (HA.out.below hBn hxw).1, (HA.out.below hBn hxw).2.1, (HA.out.below hBn hxw).2.2⟩) (fun hNew => ?_)
                  clear hK K hHeld; have hHeld := hNew; clear hNew
                  have HBn := Lib.hid hBn; clear hBn HBc; have HBc := HBn; clear HBn
                  have HX := Lib.hid hX
                  clear hX
                  have HOWN2 := Lib.hid (HOWN.out.alloc (.cells #[.int .i64 x.a, .int .i64 x.b, .int .i64 x.c] 23))
                  clear HOWN
                  have HOWN := HOWN2
                  clear HOWN2
                  try simp only [Act.put, List.setIfInBounds_toArray, List.set_cons_zero, List.set_cons_succ]
                  refine wpAnyH_ready (rs := [10]) (by kernel_rfl) (by simp) ?_
                  refine AllReadyH.cons (o := ⟨some 54, _, _, _, _, _⟩) rfl (fun K hK => ?_) AllReadyH.nil
                  obtain ⟨v2, W4, hu2, own2, hBn, _, _, _⟩ := append_step wq (W2.alloc (.cells #[.int .i64 x.a, .int .i64 x.b, .int .i64 x.c] 23)) v1 (.slice (some ⟨W2.heap.size, 0, none⟩) 1 1) ([] ++ L.take L.length) [x] HBc.out HOWN.out (VRow.one HX.out) (by simp <;> omega)
                  have HOWN2 := Lib.hid own2
                  clear HOWN own2
                  have HOWN := HOWN2
                  clear HOWN2
                  refine step_run_append rfl _ _ rfl rfl (by rfl) (by rfl) hu2 ?_
                  refine hK.out _ _ (by exact ⟨Lib.hid hBn, (HA.out.below hBn hxw).1, (HA.out.below hBn hxw).2.1, (HA.out.below hBn hxw).2.2⟩) (fun hNew => ?_)
                  clear hK K hHeld; have hHeld := hNew; clear hNew
                  have HBn := Lib.hid hBn; clear hBn HBc; have HBc := HBn; clear HBn
                  clear hu2
                  try simp only [Act.put, List.setIfInBounds_toArray, List.set_cons_zero, List.set_cons_succ]
                  refine wpAnyH_ready (rs := [14]) (by kernel_rfl) (by simp) ?_
                  refine AllReadyH.cons (o := ⟨some 58, _, _, _, _, _⟩) rfl (fun K hK => ?_) AllReadyH.nil
                  obtain ⟨v3, W5, hu3, own3, hBn, _, _, _⟩ := append_step wq W4 v2 (.slice (some ⟨g, L.length * 3, none⟩) 0 (c2 - L.length)) ([] ++ L.take L.length ++ [x]) (L.drop L.length) HBc.out HOWN.out (by rw [List.drop_length]; exact ⟨_, _, rfl, fun i x hx => by simp at hx⟩) (by simp <;> omega)
                  have HOWN2 := Lib.hid own3
                  clear HOWN own3
                  have HOWN := HOWN2
                  clear HOWN2
                  refine step_run_append rfl _ _ rfl rfl (by rfl) (by rfl) hu3 ?_
                  refine hK.out _ _ (by exact ⟨Lib.hid hBn, (HA.out.below hBn hxw).1, (HA.out.below hBn hxw).2.1, (HA.out.below hBn hxw).2.2⟩) (fun hNew => ?_)
                  clear hK K hHeld; have hHeld := hNew; clear hNew
                  have HBn := Lib.hid hBn; clear hBn HBc; have HBc := HBn; clear HBn
                  clear hu3
                  try simp only [Act.put, List.setIfInBounds_toArray, List.set_cons_zero, List.set_cons_succ]
                  refine wpAnyH_take (i := 15) (oi := ⟨some 3, _, _, _, _, _⟩) (v := ?_) rfl (by kernel_rfl) (by kernel_rfl) (by kernel_rfl) (fun _ _ _ h => h) (Or.inl ⟨by rfl, ?_⟩) (by assumption) ?_
                  rotate_left
                  focus (intro w hSw; (try dsimp only at hSw); go_simp; first | done | with_reducible rfl)
                  try simp only [Act.put, List.setIfInBounds_toArray, List.set_cons_zero, List.set_cons_succ]
                  refine wpAnyH_done (by kernel_rfl) ?_ _
                  go_wp2
                  go_roundw
                  case rel => exact ⟨n + 1, [] ++ L.take L.length ++ [x] ++ L.drop L.length, by omega, by go_num, own_base HOWN.out HB.out.size, HUP.out, mem_more2 hlt HM.out HGX.out, by simp <;> omega, HB.out.trans (HBc.out.mono HB.out.size)⟩
                  case measure => simp [intOf]; omega
                refine AllReadyH.cons (o := ⟨some 53, _, _, _, _, _⟩) rfl (fun K hK => ?_) AllReadyH.nil
                go_simp
                have hBn := HBc.out.alloc HBc.out.size (.cells #[.int .i64 x.a, .int .i64 x.b, .int .i64 x.c] 23)
                have hX := hb_new (W0.alloc (.cells #[] 23)) (.cells #[.int .i64 x.a, .int .i64 x.b, .int .i64 x.c] 23)
                try simp only [World.size_alloc] at hX
                refine hK.out _ _ (by exact ⟨Lib.hid hBn, (HA.out.below hBn hxw).1, (HA.out.below hBn hxw).2.1, (HA.out.below hBn hxw).2.2⟩) (fun hNew => ?_)
                clear hK K hHeld; have hHeld := hNew; clear hNew
                have HBn := Lib.hid hBn; clear hBn HBc; have HBc := HBn; clear HBn
                have HX := Lib.hid hX
                clear hX
                have HOWN2 := Lib.hid (HOWN.out.alloc (.cells #[.int .i64 x.a, .int .i64 x.b, .int .i64 x.c] 23))
                clear HOWN
                have HOWN := HOWN2
                clear HOWN2
                have hne : Value.ownBlock (.slice (some ⟨W0.heap.size, 0, none⟩) 0 0) ≠ some (W0.heap.size + 1) := by simp [Value.ownBlock]
                try simp only [Act.put, List.setIfInBounds_toArray, List.set_cons_zero, List.set_cons_succ]
                refine wpAnyH_ready (rs := [4]) (by kernel_rfl) (by simp) ?_
                refine AllReadyH.cons (o := ⟨some 48, _, _, _, _, _⟩) rfl (fun K hK => ?_) AllReadyH.nil
                obtain ⟨v1, W2, hu1, own1, hBn, hk1, hz1, hat1⟩ := append_step wq ((W0.alloc (.cells #[] 23)).alloc (.cells #[.int .i64 x.a, .int .i64 x.b, .int .i64 x.c] 23)) _ (.slice (some ⟨g, 0, none⟩) L.length c2) [] (L.take L.length) HBc.out HOWN.out ((VRow.take HR2.out (Nat.le_refl _)).below HBc.out) (by simp <;> omega)
                have HOWN2 := Lib.hid own1
                clear HOWN own1
                have HOWN := HOWN2
                clear HOWN2
                have HX2 := Lib.hid (hk1 _ _ HX.out hne)
                clear HX hne
                have HX := HX2
                clear HX2
                clear hk1 hz1 hat1
                refine step_run_append rfl _ _ rfl rfl (by rfl) (by rfl) hu1 ?_
                refine hK.out _ _ (by exact ⟨Lib.hid hBn, (HA.out.below hBn hxw).1, (HA.out.below hBn hxw).2.1, (HA.out.below hBn hxw).2.2⟩) (fun hNew => ?_)
                clear hK K hHeld; have hHeld := hNew; clear hNew
                have HBn := Lib.hid hBn; clear hBn HBc; have HBc := HBn; clear HBn
                clear hu1
                try simp only [Act.put, List.setIfInBounds_toArray, List.set_cons_zero, List.set_cons_succ]
                refine wpAnyH_ready (rs := [10]) (by kernel_rfl) (by simp) ?_
                refine AllReadyH.cons (o := ⟨some 54, _, _, _, _, _⟩) rfl (fun K hK => ?_) AllReadyH.nil
                obtain ⟨v2, W4, hu2, own2, hBn, _, _, _⟩ := append_step wq W2 v1 (.slice (some ⟨W0.heap.size + 1, 0, none⟩) 1 1) ([] ++ L.take L.length) [x] HBc.out HOWN.out (VRow.one HX.out) (by simp <;> omega)
                have HOWN2 := Lib.hid own2
                clear HOWN own2
                have HOWN := HOWN2
                clear HOWN2
                refine step_run_append rfl _ _ rfl rfl (by rfl) (by rfl) hu2 ?_
                refine hK.out _ _ (by exact ⟨Lib.hid hBn, (HA.out.below hBn hxw).1, (HA.out.below hBn hxw).2.1, (HA.out.below hBn hxw).2.2⟩) (fun hNew => ?_)
                clear hK K hHeld; have hHeld := hNew; clear hNew
                have HBn := Lib.hid hBn; clear hBn HBc; have HBc := HBn; clear HBn
                clear hu2
                try simp only [Act.put, List.setIfInBounds_toArray, List.set_cons_zero, List.set_cons_succ]
                refine wpAnyH_ready (rs := [14]) (by kernel_rfl) (by simp) ?_
                refine AllReadyH.cons (o := ⟨some 58, _, _, _, _, _⟩) rfl (fun K hK => ?_) AllReadyH.nil
                obtain ⟨v3, W5, hu3, own3, hBn, _, _, _⟩ := append_step wq W4 v2 (.slice (some ⟨g, L.length * 3, none⟩) 0 (c2 - L.length)) ([] ++ L.take L.length ++ [x]) (L.drop L.length) HBc.out HOWN.out (by rw [List.drop_length]; exact ⟨_, _, rfl, fun i x hx => by simp at hx⟩) (by simp <;> omega)
                have HOWN2 := Lib.hid own3
                clear HOWN own3
                have HOWN := HOWN2
                clear HOWN2
                refine step_run_append rfl _ _ rfl rfl (by rfl) (by rfl) hu3 ?_
                refine hK.out _ _ (by exact ⟨Lib.hid hBn, (HA.out.below hBn hxw).1, (HA.out.below hBn hxw).2.1, (HA.out.below hBn hxw).2.2⟩) (fun hNew => ?_)
                clear hK K hHeld; have hHeld := hNew; clear hNew
                have HBn := Lib.hid hBn; clear hBn HBc; have HBc := HBn; clear HBn
                clear hu3
                try simp only [Act.put, List.setIfInBounds_toArray, List.set_cons_zero, List.set_cons_succ]
                refine wpAnyH_take (i := 15) (oi := ⟨some 3, _, _, _, _, _⟩) (v := ?_) rfl (by kernel_rfl) (by kernel_rfl) (by kernel_rfl) (fun _ _ _ h => h) (Or.inl ⟨by rfl, ?_⟩) (by assumption) ?_
                rotate_left
                focus (intro w hSw; (try dsimp only at hSw); go_simp; first | done | with_reducible rfl)
                try simp only [Act.put, List.setIfInBounds_toArray, List.set_cons_zero, List.set_cons_succ]
                refine wpAnyH_done (by kernel_rfl) ?_ _
                go_wp2
                go_roundw
                case rel => exact ⟨n + 1, [] ++ L.take L.length ++ [x] ++ L.drop L.length, by omega, by go_num, own_base HOWN.out HB.out.size, HUP.out, mem_more2 hlt HM.out HGX.out, by simp <;> omega, HB.out.trans (HBc.out.mono HB.out.size)⟩
                case measure => simp [intOf]; omega
              refine AllReadyH.cons (o := ⟨some 53, _, _, _, _, _⟩) rfl (fun K hK => ?_) AllReadyH.nil
              go_simp
              have hBn := HBc.out.alloc HBc.out.size (.cells #[.int .i64 x.a, .int .i64 x.b, .int .i64 x.c] 23)
              have hX := hb_new W0 (.cells #[.int .i64 x.a, .int .i64 x.b, .int .i64 x.c] 23)
              try simp only [World.size_alloc] at hX
              refine hK.out _ _ (by exact ⟨Lib.hid hBn, (HA.out.below hBn hxw).1, (HA.out.below hBn hxw).2.1, (HA.out.below hBn hxw).2.2⟩) (fun hNew => ?_)
              clear hK K hHeld; have hHeld := hNew; clear hNew
              have HBn := Lib.hid hBn; clear hBn HBc; have HBc := HBn; clear HBn
              have HX := Lib.hid hX
              clear hX
              try simp only [Act.put, List.setIfInBounds_toArray, List.set_cons_zero, List.set_cons_succ]
              refine wpAnyH_ready (rs := [0]) (by kernel_rfl) (by simp) ?_
              refine AllReadyH.cons (o := ⟨some 44, _, _, _, _, _⟩) rfl (fun K hK => ?_) AllReadyH.nil
              go_simp
              have hBn := HBc.out.alloc HBc.out.size (.cells #[] 23)
              have hOn := own_base (own_empty (W0.alloc (.cells #[.int .i64 x.a, .int .i64 x.b, .int .i64 x.c] 23))) HBc.out.size
              try simp only [World.size_alloc] at hOn
              refine hK.out _ _ (by exact ⟨Lib.hid hBn, (HA.out.below hBn hxw).1, (HA.out.below hBn hxw).2.1, (HA.out.below hBn hxw).2.2⟩) (fun hNew => ?_)
              clear hK K hHeld; have hHeld := hNew; clear hNew
              have HBn := Lib.hid hBn; clear hBn HBc; have HBc := HBn; clear HBn
              have HOWN := Lib.hid hOn
              clear hOn
              have HX2 := Lib.hid (hb_alloc HX.out (.cells #[] 23))
              clear HX
              have HX := HX2
              clear HX2
              have hne : Value.ownBlock (.slice (some ⟨W0.heap.size + 1, 0, none⟩) 0 0) ≠ some (W0.heap.size) := by simp [Value.ownBlock]
              try simp only [Act.put, List.setIfInBounds_toArray, List.set_cons_zero, List.set_cons_succ]
              refine wpAnyH_ready (rs := [4]) (by kernel_rfl) (by simp) ?_
              refine AllReadyH.cons (o := ⟨some 48, _, _, _, _, _⟩) rfl (fun K hK => ?_) AllReadyH.nil
              obtain ⟨v1, W2, hu1, own1, hBn, hk1, hz1, hat1⟩ := append_step wq ((W0.alloc (.cells #[.int .i64 x.a, .int .i64 x.b, .int .i64 x.c] 23)).alloc (.cells #[] 23)) _ (.slice (some ⟨g, 0, none⟩) L.length c2) [] (L.take L.length) HBc.out HOWN.out ((VRow.take HR2.out (Nat.le_refl _)).below HBc.out) (by simp <;> omega)
              have HOWN2 := Lib.hid own1
              clear HOWN own1
              have HOWN := HOWN2
              clear HOWN2
              have HX2 := Lib.hid (hk1 _ _ HX.out hne)
              clear HX hne
              have HX := HX2
              clear HX2
              clear hk1 hz1 hat1
              refine step_run_append rfl _ _ rfl rfl (by rfl) (by rfl) hu1 ?_
              refine hK.out _ _ (by exact ⟨Lib.hid hBn, (HA.out.below hBn hxw).1, (HA.out.below hBn hxw).2.1, (HA.out.below hBn hxw).2.2⟩) (fun hNew => ?_)
              clear hK K hHeld; have hHeld := hNew; clear hNew
              have HBn := Lib.hid hBn; clear hBn HBc; have HBc := HBn; clear HBn
              clear hu1
              try simp only [Act.put, List.setIfInBounds_toArray, List.set_cons_zero, List.set_cons_succ]
              refine wpAnyH_ready (rs := [10]) (by kernel_rfl) (by simp) ?_
              refine AllReadyH.cons (o := ⟨some 54, _, _, _, _, _⟩) rfl (fun K hK => ?_) AllReadyH.nil
              obtain ⟨v2, W4, hu2, own2, hBn, _, _, _⟩ := append_step wq W2 v1 (.slice (some ⟨W0.heap.size, 0, none⟩) 1 1) ([] ++ L.take L.length) [x] HBc.out HOWN.out (VRow.one HX.out) (by simp <;> omega)
              have HOWN2 := Lib.hid own2
              clear HOWN own2
              have HOWN := HOWN2
              clear HOWN2
              refine step_run_append rfl _ _ rfl rfl (by rfl) (by rfl) hu2 ?_
              refine hK.out _ _ (by exact ⟨Lib.hid hBn, (HA.out.below hBn hxw).1, (HA.out.below hBn hxw).2.1, (HA.out.below hBn hxw).2.2⟩) (fun hNew => ?_)
              clear hK K hHeld; have hHeld := hNew; clear hNew
              have HBn := Lib.hid hBn; clear hBn HBc; have HBc := HBn; clear HBn
              clear hu2
              try simp only [Act.put, List.setIfInBounds_toArray, List.set_cons_zero, List.set_cons_succ]
              refine wpAnyH_ready (rs := [14]) (by kernel_rfl) (by simp) ?_
              refine AllReadyH.cons (o := ⟨some 58, _, _, _, _, _⟩) rfl (fun K hK => ?_) AllReadyH.nil
              obtain ⟨v3, W5, hu3, own3, hBn, _, _, _⟩ := append_step wq W4 v2 (.slice (some ⟨g, L.length * 3, none⟩) 0 (c2 - L.length)) ([] ++ L.take L.length ++ [x]) (L.drop L.length) HBc.out HOWN.out (by rw [List.drop_length]; exact ⟨_, _, rfl, fun i x hx => by simp at hx⟩) (by simp <;> omega)
              have HOWN2 := Lib.hid own3
              clear HOWN own3
              have HOWN := HOWN2
              clear HOWN2
              refine step_run_append rfl _ _ rfl rfl (by rfl) (by rfl) hu3 ?_
              refine hK.out _ _ (by exact ⟨Lib.hid hBn, (HA.out.below hBn hxw).1, (HA.out.below hBn hxw).2.1, (HA.out.below hBn hxw).2.2⟩) (fun hNew => ?_)
              clear hK K hHeld; have hHeld := hNew; clear hNew
              have HBn := Lib.hid hBn; clear hBn HBc; have HBc := HBn; clear HBn
              clear hu3
              try simp only [Act.put, List.setIfInBounds_toArray, List.set_cons_zero, List.set_cons_succ]
              refine wpAnyH_take (i := 15) (oi := ⟨some 3, _, _, _, _, _⟩) (v := ?_) rfl (by kernel_rfl) (by kernel_rfl) (by kernel_rfl) (fun _ _ _ h => h) (Or.inl ⟨by rfl, ?_⟩) (by assumption) ?_
              rotate_left
              focus (intro w hSw; (try dsimp only at hSw); go_simp; first | done | with_reducible rfl)
              try simp only [Act.put, List.setIfInBounds_toArray, List.set_cons_zero, List.set_cons_succ]
              refine wpAnyH_done (by kernel_rfl) ?_ _
              go_wp2
              go_roundw
              case rel => exact ⟨n + 1, [] ++ L.take L.length ++ [x] ++ L.drop L.length, by omega, by go_num, own_base HOWN.out HB.out.size, HUP.out, mem_more2 hlt HM.out HGX.out, by simp <;> omega, HB.out.trans (HBc.out.mono HB.out.size)⟩
              case measure => simp [intOf]; omega
    · obtain rfl : n = l.length := by omega
      rw [List.take_length] at hmem
      have HUp := Lib.hid hup
      have HM := Lib.hid hmem
      have HB := Lib.hid hB
      have HRL := Lib.hid (VRow.own hown)
      obtain ⟨q2, c2, hvo, _⟩ := own_shape hown
      subst hvo
      clear hup hmem hB hown
      go_wp2
      go_ret
      exact ⟨_, L, rfl, HRL.out, HUp.out, HM.out, hlen, HB.out⟩
end Go.Proofs.Ytmgnbpgcbehidaa
