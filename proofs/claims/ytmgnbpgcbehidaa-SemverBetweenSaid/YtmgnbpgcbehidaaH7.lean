/- SemverBetween: its walk. -/
import Derived.Test.YtmgnbpgcbehidaaH5
import Derived.Test.YtmgnbpgcbehidaaB2
import Derived.Outline
import Derived.Deep.DeepCutAuto
namespace Go.Proofs.Ytmgnbpgcbehidaa
open Go.RowKit
theorem keep_cell {w w' : World} {a : Addr} {v : Value} (hb : Below w.heap.size w w') (h : w.cell? a = some v) : w'.cell? a = some v := by
  rw [hb.cell (block_lt_of_cell h), h]
theorem between_long (v : Sv.V) (q : Option Addr) (n c : Nat) (h : 60 < n) (w : World) : Calls Try.prog 6 #[.slice q n c, vv v] w fun e w' => e = .returned (.bool true) ∧ Below w.heap.size w w' := by
  have d : decide (60 < (n : Int)) = true := by simp; omega
  go_enter Try.func6, Try.ntmps6
  go_wp2_with (go_at_call 11; refine (alive_ok _).mono ?_; rintro e w9 ⟨rfl, hb⟩)
  go_ret
  exact ⟨rfl, (below_alloc w _).trans (hb.mono (by simp))⟩
set_option maxRecDepth 100000 in
set_option maxHeartbeats 4000000 in
theorem between_of (v : Sv.V) (vl : Value) (l : List Sv.V) (w : World) (hr : VRow w vl l) (h60 : l.length ≤ 60)
    (har : ∀ W, VRow W vl l → Calls Try.prog 16 #[vv v, vl] W (AroundR l v W)) :
    Calls Try.prog 6 #[vl, vv v] w fun e w' => e = .returned (.bool true) ∧ Below w.heap.size w w' := by
  have HF := Lib.hid (har _ (hr.below (below_alloc w (.cells #[.int .i64 v.a, .int .i64 v.b, .int .i64 v.c] 23))))
  obtain ⟨q, c, rfl, hrow⟩ := hr
  have HR := Lib.hid hrow
  have d60 : decide (60 < (l.length : Int)) = false := by simp; omega
  clear har hrow
  go_enter Try.func6, Try.ntmps6
  go_upto_region 4 with (go_at_call 16; refine HF.out.mono ?_; rintro e w1 ⟨va, vb, A, B, rfl, hA, hB, hbel, habv, hbw⟩; have HA := Lib.hid hA; have HBB := Lib.hid hB; have HBel := Lib.hid hbel; have HAbv := Lib.hid habv; have HBW := Lib.hid hbw; clear hA hB hbel habv hbw)
  obtain ⟨qa, na, hva, hna⟩ := HA.out.shape
  obtain ⟨qb, nb, hvb, hnb⟩ := HBB.out.shape
  subst hva hvb
  have dA : decide (1 < (na : Int)) = false := by simp; omega
  have dB : decide (1 < (nb : Int)) = false := by simp; omega
  have hb1 := HBW.out
  have hz1 : w.heap.size + 1 ≤ w1.heap.size := by have := hb1.size; rwa [World.size_alloc] at this
  have v0 : w1.cell? ⟨w.heap.size, 0, none⟩ = some (.int .i64 v.a) := (hb1.cell (p := ⟨w.heap.size, 0, none⟩) (by simp)).trans (hb_at (hb_new w _) 0 rfl)
  have v1 : w1.cell? ⟨w.heap.size, 1, none⟩ = some (.int .i64 v.b) := (hb1.cell (p := ⟨w.heap.size, 1, none⟩) (by simp)).trans (hb_at (hb_new w _) 1 rfl)
  have v2 : w1.cell? ⟨w.heap.size, 2, none⟩ = some (.int .i64 v.c) := (hb1.cell (p := ⟨w.heap.size, 2, none⟩) (by simp)).trans (hb_at (hb_new w _) 2 rfl)
  have hbw : Below w.heap.size w w1 := (below_alloc w _).trans (hb1.mono (by simp))
  have HB0 := Lib.hid hbw
  have V0 := Lib.hid v0
  have V1 := Lib.hid v1
  have V2 := Lib.hid v2
  clear v0 v1 v2 hbw hb1
  go_wp2
  generalize hca : ((na : Nat) : Int) = ca
  generalize hcb : ((nb : Nat) : Int) = cb
  clear hca hcb dA dB
  go_loopw [35] (fun i wr => ∃ k : Nat, k ≤ l.length ∧ i = .int .i64 k ∧ Below w1.heap.size w1 wr) (fun i _ => l.length - (intOf i).toNat)
  case atStart => exact ⟨0, Nat.zero_le _, rfl, Below.refl _ _⟩
  case round =>
    obtain ⟨k, hk, rfl, hB⟩ := hrel
    have hzr := hB.size
    have v0 : wr.cell? ⟨w.heap.size, 0, none⟩ = some (.int .i64 v.a) := (hB.cell (p := ⟨w.heap.size, 0, none⟩) (by simp; omega)).trans V0.out
    have v1 : wr.cell? ⟨w.heap.size, 1, none⟩ = some (.int .i64 v.b) := (hB.cell (p := ⟨w.heap.size, 1, none⟩) (by simp; omega)).trans V1.out
    have v2 : wr.cell? ⟨w.heap.size, 2, none⟩ = some (.int .i64 v.c) := (hB.cell (p := ⟨w.heap.size, 2, none⟩) (by simp; omega)).trans V2.out
    have hvlt : w.heap.size < wr.heap.size := by omega
    by_cases hlt : k < l.length
    · obtain ⟨b, o, hq, ha⟩ := HR.out k l[k] (List.getElem?_eq_getElem hlt)
      subst hq
      obtain ⟨x0, x1, x2⟩ := (ha.below HB0.out ha.lt).below hB (by have := ha.lt; omega)
      have hxlt : b < wr.heap.size := by have := ha.lt; omega
      have hmem := List.getElem_mem hlt
      generalize hx : l[k] = x at *
      have HX := Lib.hid hx
      have HMem := Lib.hid hmem
      have HB := Lib.hid hB
      clear hx hmem hB ha
      by_cases hmaj : x.a = v.a
      · have d1 : (x.a == v.a) = true := by simpa using hmaj
        by_cases hxv : x = v
        · subst hxv
          clear hmaj
          go_wp2
          go_roundw
          case rel => exact ⟨k + 1, by omega, by go_num, HB.out.alloc hzr _⟩
          case measure => simp [intOf]; omega
        · have hform : (∃ xb xc, x = ⟨v.a, xb, xc⟩ ∧ (xb == v.b) = false) ∨ (∃ xc, x = ⟨v.a, v.b, xc⟩ ∧ (xc == v.c) = false) := by
            obtain ⟨xa, xb, xc⟩ := x
            obtain rfl : xa = v.a := hmaj
            by_cases h2 : xb = v.b
            · subst h2
              exact .inr ⟨xc, rfl, by simp only [beq_eq_false_iff_ne]; intro h3; subst h3; exact hxv rfl⟩
            · exact .inl ⟨xb, xc, rfl, by simpa using h2⟩
          have HNE := Lib.hid hxv
          clear hmaj hxv d1
          rcases hform with ⟨xb, xc, rfl, e1⟩ | ⟨xc, rfl, e1⟩
          · have x0' : wr.cell? ⟨b, o + k * 3, none⟩ = some (.int .i64 v.a) := x0
            have x1' : wr.cell? ⟨b, o + k * 3 + 1, none⟩ = some (.int .i64 xb) := x1
            have x2' : wr.cell? ⟨b, o + k * 3 + 2, none⟩ = some (.int .i64 xc) := x2
            clear x0 x1 x2
            rcases cmp_is (x := ⟨v.a, xb, xc⟩) (v := v) with ⟨hc, hl1, hl2⟩ | ⟨hc, hl1, hl2⟩ | ⟨hc, hl1, hl2⟩
            rotate_left 2
            · exact absurd ((Sv.cmp_zero _ v).1 hc) HNE.out
            · skip
              have HC := Lib.hid (fun W => cmp_lit ⟨v.a, xb, xc⟩ v _ hc W)
              have HL := Lib.hid hl1
              clear hc hl1 hl2
              cases A with
              | none => exact absurd HL.out (by rw [HBel.out ⟨v.a, xb, xc⟩ HMem.out rfl]; decide)
              | some y =>
                obtain ⟨bA, hqa, hna1, hat⟩ := HA.out.at
                subst hqa hna1
                have hcm : Sv.cmp ⟨v.a, xb, xc⟩ y ≤ 0 := by
                  rcases Int.lt_or_le 0 (Sv.cmp ⟨v.a, xb, xc⟩ y) with h | h
                  · have h2 := (Sv.cmp_pos ⟨v.a, xb, xc⟩ y).1 h
                    rw [HBel.out.2.2.2 ⟨v.a, xb, xc⟩ HMem.out rfl HL.out] at h2
                    cases h2
                  · exact h
                have dC : decide (0 < Sv.cmp ⟨v.a, xb, xc⟩ y) = false := by simpa using hcm
                clear hcm
                obtain ⟨a0, a1, a2⟩ := hat.below HB.out hat.lt
                have halt : bA < wr.heap.size := by have := hat.lt; omega
                clear hat
                go_wp2_with (go_at_call 7; ((with_reducible refine (HC.out _).mono ?_); rintro e w2 ⟨rfl, hb2⟩; obtain ⟨hc2, hf2⟩ := bcell hb2; have z2 := hb2.size; rw [World.size_alloc] at z2))
                have t0 : w2.cell? ⟨wr.heap.size, 0, none⟩ = some (.int .i64 v.a) := (hb2.cell (p := ⟨wr.heap.size, 0, none⟩) (by simp)).trans (hb_at (hb_new wr _) 0 rfl)
                have t1 : w2.cell? ⟨wr.heap.size, 1, none⟩ = some (.int .i64 xb) := (hb2.cell (p := ⟨wr.heap.size, 1, none⟩) (by simp)).trans (hb_at (hb_new wr _) 1 rfl)
                have t2 : w2.cell? ⟨wr.heap.size, 2, none⟩ = some (.int .i64 xc) := (hb2.cell (p := ⟨wr.heap.size, 2, none⟩) (by simp)).trans (hb_at (hb_new wr _) 2 rfl)
                have hbb : Below wr.heap.size wr w2 := (below_alloc wr _).trans (hb2.mono (by simp))
                have b0 : w2.cell? ⟨bA, 0, none⟩ = some (.int .i64 y.a) := (hbb.cell (p := ⟨bA, 0, none⟩) halt).trans a0
                have b1 : w2.cell? ⟨bA, 1, none⟩ = some (.int .i64 y.b) := (hbb.cell (p := ⟨bA, 1, none⟩) halt).trans a1
                have b2 : w2.cell? ⟨bA, 2, none⟩ = some (.int .i64 y.c) := (hbb.cell (p := ⟨bA, 2, none⟩) halt).trans a2
                have HBT := Lib.hid (HB.out.trans (hbb.mono hzr))
                clear hc2 hf2 hbb hb2
                refine wp_region_held_drew (S := (fun w' => RowKit.Hid (Below w1.heap.size w1 w') ∧ w'.cell? ⟨wr.heap.size, 0, none⟩ = some (.int .i64 v.a) ∧ w'.cell? ⟨wr.heap.size, 1, none⟩ = some (.int .i64 xb) ∧ w'.cell? ⟨wr.heap.size, 2, none⟩ = some (.int .i64 xc) ∧ w'.cell? ⟨bA, 0, none⟩ = some (.int .i64 y.a) ∧ w'.cell? ⟨bA, 1, none⟩ = some (.int .i64 y.b) ∧ w'.cell? ⟨bA, 2, none⟩ = some (.int .i64 y.c))) (by kernel_rfl) (by exact ⟨Lib.hid (below_drewN HBT.out 1), t0, t1, t2, b0, b1, b2⟩) (fun hHeld => ?_)
                refine wpAnyH_take (i := 0) (oi := ⟨some 52, _, _, _, _, _⟩) (v := ?_) rfl (by kernel_rfl) (by kernel_rfl) (by kernel_rfl) (fun _ _ _ h => h) (Or.inl ⟨by rfl, ?_⟩) (by assumption) ?_
                rotate_left
                focus (intro w hSw; (try dsimp only at hSw); go_simp; first | done | with_reducible rfl)
                try simp only [Act.put, List.setIfInBounds_toArray, List.set_cons_zero, List.set_cons_succ]
                refine wpAnyH_take (i := 1) (oi := ⟨some 53, _, _, _, _, _⟩) (v := ?_) rfl (by kernel_rfl) (by kernel_rfl) (by kernel_rfl) (fun _ _ _ h => h) (Or.inl ⟨by rfl, ?_⟩) (by assumption) ?_
                rotate_left
                focus (intro w hSw; (try dsimp only at hSw); go_simp; first | done | with_reducible rfl)
                try simp only [Act.put, List.setIfInBounds_toArray, List.set_cons_zero, List.set_cons_succ]
                refine wpAnyH_take (i := 2) (oi := ⟨some 54, _, _, _, _, _⟩) (v := ?_) rfl (by kernel_rfl) (by kernel_rfl) (by kernel_rfl) (fun _ _ _ h => h) (Or.inl ⟨by rfl, ?_⟩) (by assumption) ?_
                rotate_left
                focus (intro w hSw; (try dsimp only at hSw); go_simp; first | done | with_reducible rfl)
                try simp only [Act.put, List.setIfInBounds_toArray, List.set_cons_zero, List.set_cons_succ]
                refine wpAnyH_take (i := 3) (oi := ⟨some 55, _, _, _, _, _⟩) (v := ?_) rfl (by kernel_rfl) (by kernel_rfl) (by kernel_rfl) (fun _ _ _ h => h) (Or.inl ⟨by rfl, ?_⟩) (by assumption) ?_
                rotate_left
                focus (intro w hSw; (try dsimp only at hSw); go_simp; first | done | with_reducible rfl)
                try simp only [Act.put, List.setIfInBounds_toArray, List.set_cons_zero, List.set_cons_succ]
                refine wpAnyH_take (i := 4) (oi := ⟨some 56, _, _, _, _, _⟩) (v := ?_) rfl (by kernel_rfl) (by kernel_rfl) (by kernel_rfl) (fun _ _ _ h => h) (Or.inl ⟨by rfl, ?_⟩) (by assumption) ?_
                rotate_left
                focus (intro w hSw; (try dsimp only at hSw); go_simp; first | done | with_reducible rfl)
                try simp only [Act.put, List.setIfInBounds_toArray, List.set_cons_zero, List.set_cons_succ]
                refine wpAnyH_take (i := 5) (oi := ⟨some 57, _, _, _, _, _⟩) (v := ?_) rfl (by kernel_rfl) (by kernel_rfl) (by kernel_rfl) (fun _ _ _ h => h) (Or.inl ⟨by rfl, ?_⟩) (by assumption) ?_
                rotate_left
                focus (intro w hSw; (try dsimp only at hSw); go_simp; first | done | with_reducible rfl)
                try simp only [Act.put, List.setIfInBounds_toArray, List.set_cons_zero, List.set_cons_succ]
                refine wpAnyH_take (i := 6) (oi := ⟨some 58, _, _, _, _, _⟩) (v := ?_) rfl (by kernel_rfl) (by kernel_rfl) (by kernel_rfl) (fun _ _ _ h => h) (Or.inl ⟨by rfl, ?_⟩) (by assumption) ?_
                rotate_left
                focus (intro w hSw; (try dsimp only at hSw); go_simp; first | done | with_reducible rfl)
                try simp only [Act.put, List.setIfInBounds_toArray, List.set_cons_zero, List.set_cons_succ]
                refine wpAnyH_take (i := 7) (oi := ⟨some 59, _, _, _, _, _⟩) (v := ?_) rfl (by kernel_rfl) (by kernel_rfl) (by kernel_rfl) (fun _ _ _ h => h) (Or.inl ⟨by rfl, ?_⟩) (by assumption) ?_
                rotate_left
                focus (intro w hSw; (try dsimp only at hSw); go_simp; first | done | with_reducible rfl)
                try simp only [Act.put, List.setIfInBounds_toArray, List.set_cons_zero, List.set_cons_succ]
                refine wpAnyH_take (i := 8) (oi := ⟨some 60, _, _, _, _, _⟩) (v := ?_) rfl (by kernel_rfl) (by kernel_rfl) (by kernel_rfl) (fun _ _ _ h => h) (Or.inl ⟨by rfl, ?_⟩) (by assumption) ?_
                rotate_left
                focus (intro w hSw; (try dsimp only at hSw); go_simp; first | done | with_reducible rfl)
                try simp only [Act.put, List.setIfInBounds_toArray, List.set_cons_zero, List.set_cons_succ]
                refine wpAnyH_take (i := 9) (oi := ⟨some 61, _, _, _, _, _⟩) (v := ?_) rfl (by kernel_rfl) (by kernel_rfl) (by kernel_rfl) (fun _ _ _ h => h) (Or.inl ⟨by rfl, ?_⟩) (by assumption) ?_
                rotate_left
                focus (intro w hSw; (try dsimp only at hSw); go_simp; first | done | with_reducible rfl)
                try simp only [Act.put, List.setIfInBounds_toArray, List.set_cons_zero, List.set_cons_succ]
                refine wpAnyH_take (i := 10) (oi := ⟨some 62, _, _, _, _, _⟩) (v := ?_) rfl (by kernel_rfl) (by kernel_rfl) (by kernel_rfl) (fun _ _ _ h => h) (Or.inl ⟨by rfl, ?_⟩) (by assumption) ?_
                rotate_left
                focus (intro w hSw; (try dsimp only at hSw); go_simp; first | done | with_reducible rfl)
                try simp only [Act.put, List.setIfInBounds_toArray, List.set_cons_zero, List.set_cons_succ]
                refine wpAnyH_ready (rs := [11]) (by kernel_rfl) (by simp) ?_
                refine AllReadyH.cons (o := ⟨some 63, _, _, _, _, _⟩) rfl (fun K hK => ?_) AllReadyH.nil
                go_simp
                with_reducible refine (cmp_any ⟨v.a, xb, xc⟩ y _).mono ?_; rintro e w3 ⟨rfl, hb⟩
                go_wp2_with fail
                refine hK.out _ _ (by exact ⟨Lib.hid (hHeld.1.out.trans (hb.mono hHeld.1.out.size)), keep_cell hb hHeld.2.1, keep_cell hb hHeld.2.2.1, keep_cell hb hHeld.2.2.2.1, keep_cell hb hHeld.2.2.2.2.1, keep_cell hb hHeld.2.2.2.2.2.1, keep_cell hb hHeld.2.2.2.2.2.2⟩) (fun hNew => ?_)
                clear hK K
                clear hHeld hb; have hHeld := hNew; clear hNew
                try simp only [Act.put, List.setIfInBounds_toArray, List.set_cons_zero, List.set_cons_succ]
                refine wpAnyH_take (i := 12) (oi := ⟨some 64, _, _, _, _, _⟩) (v := ?_) rfl (by kernel_rfl) (by kernel_rfl) (by kernel_rfl) (fun _ _ _ h => h) (Or.inl ⟨by rfl, ?_⟩) (by assumption) ?_
                rotate_left
                focus (intro w hSw; (try dsimp only at hSw); go_simp; first | done | with_reducible rfl)
                try simp only [Act.put, List.setIfInBounds_toArray, List.set_cons_zero, List.set_cons_succ]
                refine wpAnyH_take (i := 13) (oi := ⟨some 65, _, _, _, _, _⟩) (v := ?_) rfl (by kernel_rfl) (by kernel_rfl) (by kernel_rfl) (fun _ _ _ h => h) (Or.inl ⟨by rfl, ?_⟩) (by assumption) ?_
                rotate_left
                focus (intro w hSw; (try dsimp only at hSw); go_simp; first | done | with_reducible rfl)
                try simp only [Act.put, List.setIfInBounds_toArray, List.set_cons_zero, List.set_cons_succ]
                refine wpAnyH_take (i := 14) (oi := ⟨some 66, _, _, _, _, _⟩) (v := ?_) rfl (by kernel_rfl) (by kernel_rfl) (by kernel_rfl) (fun _ _ _ h => h) (Or.inl ⟨by rfl, ?_⟩) (by assumption) ?_
                rotate_left
                focus (intro w hSw; (try dsimp only at hSw); go_simp; first | done | with_reducible rfl)
                try simp only [Act.put, List.setIfInBounds_toArray, List.set_cons_zero, List.set_cons_succ]
                refine wpAnyH_take (i := 15) (oi := ⟨some 67, _, _, _, _, _⟩) (v := ?_) rfl (by kernel_rfl) (by kernel_rfl) (by kernel_rfl) (fun _ _ _ h => h) (Or.inl ⟨by rfl, ?_⟩) (by assumption) ?_
                rotate_left
                focus (intro w hSw; (try dsimp only at hSw); go_simp; first | done | with_reducible rfl)
                try simp only [Act.put, List.setIfInBounds_toArray, List.set_cons_zero, List.set_cons_succ]
                refine wpAnyH_take (i := 16) (oi := ⟨some 68, _, _, _, _, _⟩) (v := ?_) rfl (by kernel_rfl) (by kernel_rfl) (by kernel_rfl) (fun _ _ _ h => h) (Or.inl ⟨by rfl, ?_⟩) (by assumption) ?_
                rotate_left
                focus (intro w hSw; (try dsimp only at hSw); go_simp; first | done | with_reducible rfl)
                try simp only [Act.put, List.setIfInBounds_toArray, List.set_cons_zero, List.set_cons_succ]
                refine wpAnyH_take (i := 17) (oi := ⟨some 69, _, _, _, _, _⟩) (v := ?_) rfl (by kernel_rfl) (by kernel_rfl) (by kernel_rfl) (fun _ _ _ h => h) (Or.inl ⟨by rfl, ?_⟩) (by assumption) ?_
                rotate_left
                focus (intro w hSw; (try dsimp only at hSw); go_simp; first | done | with_reducible rfl)
                try simp only [Act.put, List.setIfInBounds_toArray, List.set_cons_zero, List.set_cons_succ]
                refine wpAnyH_take (i := 18) (oi := ⟨some 70, _, _, _, _, _⟩) (v := ?_) rfl (by kernel_rfl) (by kernel_rfl) (by kernel_rfl) (fun _ _ _ h => h) (Or.inl ⟨by rfl, ?_⟩) (by assumption) ?_
                rotate_left
                focus (intro w hSw; (try dsimp only at hSw); go_simp; first | done | with_reducible rfl)
                try simp only [Act.put, List.setIfInBounds_toArray, List.set_cons_zero, List.set_cons_succ]
                refine wpAnyH_take (i := 19) (oi := ⟨some 71, _, _, _, _, _⟩) (v := undef) rfl (by kernel_rfl) (by kernel_rfl) (by kernel_rfl) (fun _ _ _ h => h) (Or.inr ⟨by rfl, rfl⟩) (by assumption) ?_
                try simp only [Act.put, List.setIfInBounds_toArray, List.set_cons_zero, List.set_cons_succ]
                refine wpAnyH_take (i := 20) (oi := ⟨some 72, _, _, _, _, _⟩) (v := undef) rfl (by kernel_rfl) (by kernel_rfl) (by kernel_rfl) (fun _ _ _ h => h) (Or.inr ⟨by rfl, rfl⟩) (by assumption) ?_
                try simp only [Act.put, List.setIfInBounds_toArray, List.set_cons_zero, List.set_cons_succ]
                refine wpAnyH_take (i := 21) (oi := ⟨some 73, _, _, _, _, _⟩) (v := undef) rfl (by kernel_rfl) (by kernel_rfl) (by kernel_rfl) (fun _ _ _ h => h) (Or.inr ⟨by rfl, rfl⟩) (by assumption) ?_
                try simp only [Act.put, List.setIfInBounds_toArray, List.set_cons_zero, List.set_cons_succ]
                refine wpAnyH_take (i := 22) (oi := ⟨some 74, _, _, _, _, _⟩) (v := undef) rfl (by kernel_rfl) (by kernel_rfl) (by kernel_rfl) (fun _ _ _ h => h) (Or.inr ⟨by rfl, rfl⟩) (by assumption) ?_
                try simp only [Act.put, List.setIfInBounds_toArray, List.set_cons_zero, List.set_cons_succ]
                refine wpAnyH_take (i := 23) (oi := ⟨some 75, _, _, _, _, _⟩) (v := undef) rfl (by kernel_rfl) (by kernel_rfl) (by kernel_rfl) (fun _ _ _ h => h) (Or.inr ⟨by rfl, rfl⟩) (by assumption) ?_
                try simp only [Act.put, List.setIfInBounds_toArray, List.set_cons_zero, List.set_cons_succ]
                refine wpAnyH_take (i := 24) (oi := ⟨some 76, _, _, _, _, _⟩) (v := undef) rfl (by kernel_rfl) (by kernel_rfl) (by kernel_rfl) (fun _ _ _ h => h) (Or.inr ⟨by rfl, rfl⟩) (by assumption) ?_
                try simp only [Act.put, List.setIfInBounds_toArray, List.set_cons_zero, List.set_cons_succ]
                refine wpAnyH_take (i := 25) (oi := ⟨some 77, _, _, _, _, _⟩) (v := undef) rfl (by kernel_rfl) (by kernel_rfl) (by kernel_rfl) (fun _ _ _ h => h) (Or.inr ⟨by rfl, rfl⟩) (by assumption) ?_
                try simp only [Act.put, List.setIfInBounds_toArray, List.set_cons_zero, List.set_cons_succ]
                refine wpAnyH_take (i := 26) (oi := ⟨some 78, _, _, _, _, _⟩) (v := undef) rfl (by kernel_rfl) (by kernel_rfl) (by kernel_rfl) (fun _ _ _ h => h) (Or.inr ⟨by rfl, rfl⟩) (by assumption) ?_
                try simp only [Act.put, List.setIfInBounds_toArray, List.set_cons_zero, List.set_cons_succ]
                refine wpAnyH_take (i := 27) (oi := ⟨some 79, _, _, _, _, _⟩) (v := undef) rfl (by kernel_rfl) (by kernel_rfl) (by kernel_rfl) (fun _ _ _ h => h) (Or.inr ⟨by rfl, rfl⟩) (by assumption) ?_
                try simp only [Act.put, List.setIfInBounds_toArray, List.set_cons_zero, List.set_cons_succ]
                refine wpAnyH_take (i := 28) (oi := ⟨some 80, _, _, _, _, _⟩) (v := undef) rfl (by kernel_rfl) (by kernel_rfl) (by kernel_rfl) (fun _ _ _ h => h) (Or.inr ⟨by rfl, rfl⟩) (by assumption) ?_
                try simp only [Act.put, List.setIfInBounds_toArray, List.set_cons_zero, List.set_cons_succ]
                refine wpAnyH_take (i := 29) (oi := ⟨some 81, _, _, _, _, _⟩) (v := undef) rfl (by kernel_rfl) (by kernel_rfl) (by kernel_rfl) (fun _ _ _ h => h) (Or.inr ⟨by rfl, rfl⟩) (by assumption) ?_
                try simp only [Act.put, List.setIfInBounds_toArray, List.set_cons_zero, List.set_cons_succ]
                refine wpAnyH_take (i := 30) (oi := ⟨some 82, _, _, _, _, _⟩) (v := ?_) rfl (by kernel_rfl) (by kernel_rfl) (by kernel_rfl) (fun _ _ _ h => h) (Or.inl ⟨by rfl, ?_⟩) (by assumption) ?_
                rotate_left
                focus (intro w hSw; (try dsimp only at hSw); go_simp; first | done | with_reducible rfl)
                try simp only [Act.put, List.setIfInBounds_toArray, List.set_cons_zero, List.set_cons_succ]
                refine wpAnyH_take (i := 31) (oi := ⟨some 83, _, _, _, _, _⟩) (v := ?_) rfl (by kernel_rfl) (by kernel_rfl) (by kernel_rfl) (fun _ _ _ h => h) (Or.inl ⟨by rfl, ?_⟩) (by assumption) ?_
                rotate_left
                focus (intro w hSw; (try dsimp only at hSw); go_simp; first | done | with_reducible rfl)
                try simp only [Act.put, List.setIfInBounds_toArray, List.set_cons_zero, List.set_cons_succ]
                refine wpAnyH_done (by kernel_rfl) ?_ _
                have HBX := hHeld.1.out
                go_wp2
                go_roundw
                case rel => exact ⟨k + 1, by omega, by go_num, HBX⟩
                case measure => simp [intOf]; omega
            · skip
              have HC := Lib.hid (fun W => cmp_lit ⟨v.a, xb, xc⟩ v _ hc W)
              have HL := Lib.hid hl1
              clear hc hl1 hl2
              cases B with
              | none => exact absurd HL.out (by rw [HAbv.out ⟨v.a, xb, xc⟩ HMem.out rfl]; decide)
              | some y =>
                obtain ⟨bA, hqa, hna1, hat⟩ := HBB.out.at
                subst hqa hna1
                have hcm : 0 ≤ Sv.cmp ⟨v.a, xb, xc⟩ y := by
                  rcases Int.lt_or_le (Sv.cmp ⟨v.a, xb, xc⟩ y) 0 with h | h
                  · have h2 := (Sv.cmp_neg ⟨v.a, xb, xc⟩ y).1 h
                    rw [HAbv.out.2.2.2 ⟨v.a, xb, xc⟩ HMem.out rfl HL.out] at h2
                    cases h2
                  · exact h
                have dC : decide (Sv.cmp ⟨v.a, xb, xc⟩ y < 0) = false := by simpa using hcm
                clear hcm
                obtain ⟨a0, a1, a2⟩ := hat.below HB.out hat.lt
                have halt : bA < wr.heap.size := by have := hat.lt; omega
                clear hat
                go_wp2_with (go_at_call 7; ((with_reducible refine (HC.out _).mono ?_); rintro e w2 ⟨rfl, hb2⟩; obtain ⟨hc2, hf2⟩ := bcell hb2; have z2 := hb2.size; rw [World.size_alloc] at z2))
                have t0 : w2.cell? ⟨wr.heap.size, 0, none⟩ = some (.int .i64 v.a) := (hb2.cell (p := ⟨wr.heap.size, 0, none⟩) (by simp)).trans (hb_at (hb_new wr _) 0 rfl)
                have t1 : w2.cell? ⟨wr.heap.size, 1, none⟩ = some (.int .i64 xb) := (hb2.cell (p := ⟨wr.heap.size, 1, none⟩) (by simp)).trans (hb_at (hb_new wr _) 1 rfl)
                have t2 : w2.cell? ⟨wr.heap.size, 2, none⟩ = some (.int .i64 xc) := (hb2.cell (p := ⟨wr.heap.size, 2, none⟩) (by simp)).trans (hb_at (hb_new wr _) 2 rfl)
                have hbb : Below wr.heap.size wr w2 := (below_alloc wr _).trans (hb2.mono (by simp))
                have b0 : w2.cell? ⟨bA, 0, none⟩ = some (.int .i64 y.a) := (hbb.cell (p := ⟨bA, 0, none⟩) halt).trans a0
                have b1 : w2.cell? ⟨bA, 1, none⟩ = some (.int .i64 y.b) := (hbb.cell (p := ⟨bA, 1, none⟩) halt).trans a1
                have b2 : w2.cell? ⟨bA, 2, none⟩ = some (.int .i64 y.c) := (hbb.cell (p := ⟨bA, 2, none⟩) halt).trans a2
                have HBT := Lib.hid (HB.out.trans (hbb.mono hzr))
                clear hc2 hf2 hbb hb2
                refine wp_region_held_drew (S := (fun w' => RowKit.Hid (Below w1.heap.size w1 w') ∧ w'.cell? ⟨wr.heap.size, 0, none⟩ = some (.int .i64 v.a) ∧ w'.cell? ⟨wr.heap.size, 1, none⟩ = some (.int .i64 xb) ∧ w'.cell? ⟨wr.heap.size, 2, none⟩ = some (.int .i64 xc) ∧ w'.cell? ⟨bA, 0, none⟩ = some (.int .i64 y.a) ∧ w'.cell? ⟨bA, 1, none⟩ = some (.int .i64 y.b) ∧ w'.cell? ⟨bA, 2, none⟩ = some (.int .i64 y.c))) (by kernel_rfl) (by exact ⟨Lib.hid (below_drewN HBT.out 1), t0, t1, t2, b0, b1, b2⟩) (fun hHeld => ?_)
                refine wpAnyH_take (i := 0) (oi := ⟨some 52, _, _, _, _, _⟩) (v := ?_) rfl (by kernel_rfl) (by kernel_rfl) (by kernel_rfl) (fun _ _ _ h => h) (Or.inl ⟨by rfl, ?_⟩) (by assumption) ?_
                rotate_left
                focus (intro w hSw; (try dsimp only at hSw); go_simp; first | done | with_reducible rfl)
                try simp only [Act.put, List.setIfInBounds_toArray, List.set_cons_zero, List.set_cons_succ]
                refine wpAnyH_take (i := 1) (oi := ⟨some 53, _, _, _, _, _⟩) (v := ?_) rfl (by kernel_rfl) (by kernel_rfl) (by kernel_rfl) (fun _ _ _ h => h) (Or.inl ⟨by rfl, ?_⟩) (by assumption) ?_
                rotate_left
                focus (intro w hSw; (try dsimp only at hSw); go_simp; first | done | with_reducible rfl)
                try simp only [Act.put, List.setIfInBounds_toArray, List.set_cons_zero, List.set_cons_succ]
                refine wpAnyH_take (i := 2) (oi := ⟨some 54, _, _, _, _, _⟩) (v := ?_) rfl (by kernel_rfl) (by kernel_rfl) (by kernel_rfl) (fun _ _ _ h => h) (Or.inl ⟨by rfl, ?_⟩) (by assumption) ?_
                rotate_left
                focus (intro w hSw; (try dsimp only at hSw); go_simp; first | done | with_reducible rfl)
                try simp only [Act.put, List.setIfInBounds_toArray, List.set_cons_zero, List.set_cons_succ]
                refine wpAnyH_take (i := 3) (oi := ⟨some 55, _, _, _, _, _⟩) (v := undef) rfl (by kernel_rfl) (by kernel_rfl) (by kernel_rfl) (fun _ _ _ h => h) (Or.inr ⟨by rfl, rfl⟩) (by assumption) ?_
                try simp only [Act.put, List.setIfInBounds_toArray, List.set_cons_zero, List.set_cons_succ]
                refine wpAnyH_take (i := 4) (oi := ⟨some 56, _, _, _, _, _⟩) (v := undef) rfl (by kernel_rfl) (by kernel_rfl) (by kernel_rfl) (fun _ _ _ h => h) (Or.inr ⟨by rfl, rfl⟩) (by assumption) ?_
                try simp only [Act.put, List.setIfInBounds_toArray, List.set_cons_zero, List.set_cons_succ]
                refine wpAnyH_take (i := 5) (oi := ⟨some 57, _, _, _, _, _⟩) (v := undef) rfl (by kernel_rfl) (by kernel_rfl) (by kernel_rfl) (fun _ _ _ h => h) (Or.inr ⟨by rfl, rfl⟩) (by assumption) ?_
                try simp only [Act.put, List.setIfInBounds_toArray, List.set_cons_zero, List.set_cons_succ]
                refine wpAnyH_take (i := 6) (oi := ⟨some 58, _, _, _, _, _⟩) (v := undef) rfl (by kernel_rfl) (by kernel_rfl) (by kernel_rfl) (fun _ _ _ h => h) (Or.inr ⟨by rfl, rfl⟩) (by assumption) ?_
                try simp only [Act.put, List.setIfInBounds_toArray, List.set_cons_zero, List.set_cons_succ]
                refine wpAnyH_take (i := 7) (oi := ⟨some 59, _, _, _, _, _⟩) (v := undef) rfl (by kernel_rfl) (by kernel_rfl) (by kernel_rfl) (fun _ _ _ h => h) (Or.inr ⟨by rfl, rfl⟩) (by assumption) ?_
                try simp only [Act.put, List.setIfInBounds_toArray, List.set_cons_zero, List.set_cons_succ]
                refine wpAnyH_take (i := 8) (oi := ⟨some 60, _, _, _, _, _⟩) (v := undef) rfl (by kernel_rfl) (by kernel_rfl) (by kernel_rfl) (fun _ _ _ h => h) (Or.inr ⟨by rfl, rfl⟩) (by assumption) ?_
                try simp only [Act.put, List.setIfInBounds_toArray, List.set_cons_zero, List.set_cons_succ]
                refine wpAnyH_take (i := 9) (oi := ⟨some 61, _, _, _, _, _⟩) (v := undef) rfl (by kernel_rfl) (by kernel_rfl) (by kernel_rfl) (fun _ _ _ h => h) (Or.inr ⟨by rfl, rfl⟩) (by assumption) ?_
                try simp only [Act.put, List.setIfInBounds_toArray, List.set_cons_zero, List.set_cons_succ]
                refine wpAnyH_take (i := 10) (oi := ⟨some 62, _, _, _, _, _⟩) (v := undef) rfl (by kernel_rfl) (by kernel_rfl) (by kernel_rfl) (fun _ _ _ h => h) (Or.inr ⟨by rfl, rfl⟩) (by assumption) ?_
                try simp only [Act.put, List.setIfInBounds_toArray, List.set_cons_zero, List.set_cons_succ]
                refine wpAnyH_take (i := 11) (oi := ⟨some 63, _, _, _, _, _⟩) (v := undef) rfl (by kernel_rfl) (by kernel_rfl) (by kernel_rfl) (fun _ _ _ h => h) (Or.inr ⟨by rfl, rfl⟩) (by assumption) ?_
                try simp only [Act.put, List.setIfInBounds_toArray, List.set_cons_zero, List.set_cons_succ]
                refine wpAnyH_take (i := 12) (oi := ⟨some 64, _, _, _, _, _⟩) (v := undef) rfl (by kernel_rfl) (by kernel_rfl) (by kernel_rfl) (fun _ _ _ h => h) (Or.inr ⟨by rfl, rfl⟩) (by assumption) ?_
                try simp only [Act.put, List.setIfInBounds_toArray, List.set_cons_zero, List.set_cons_succ]
                refine wpAnyH_take (i := 13) (oi := ⟨some 65, _, _, _, _, _⟩) (v := undef) rfl (by kernel_rfl) (by kernel_rfl) (by kernel_rfl) (fun _ _ _ h => h) (Or.inr ⟨by rfl, rfl⟩) (by assumption) ?_
                try simp only [Act.put, List.setIfInBounds_toArray, List.set_cons_zero, List.set_cons_succ]
                refine wpAnyH_take (i := 14) (oi := ⟨some 66, _, _, _, _, _⟩) (v := ?_) rfl (by kernel_rfl) (by kernel_rfl) (by kernel_rfl) (fun _ _ _ h => h) (Or.inl ⟨by rfl, ?_⟩) (by assumption) ?_
                rotate_left
                focus (intro w hSw; (try dsimp only at hSw); go_simp; first | done | with_reducible rfl)
                try simp only [Act.put, List.setIfInBounds_toArray, List.set_cons_zero, List.set_cons_succ]
                refine wpAnyH_take (i := 15) (oi := ⟨some 67, _, _, _, _, _⟩) (v := ?_) rfl (by kernel_rfl) (by kernel_rfl) (by kernel_rfl) (fun _ _ _ h => h) (Or.inl ⟨by rfl, ?_⟩) (by assumption) ?_
                rotate_left
                focus (intro w hSw; (try dsimp only at hSw); go_simp; first | done | with_reducible rfl)
                try simp only [Act.put, List.setIfInBounds_toArray, List.set_cons_zero, List.set_cons_succ]
                refine wpAnyH_take (i := 16) (oi := ⟨some 68, _, _, _, _, _⟩) (v := ?_) rfl (by kernel_rfl) (by kernel_rfl) (by kernel_rfl) (fun _ _ _ h => h) (Or.inl ⟨by rfl, ?_⟩) (by assumption) ?_
                rotate_left
                focus (intro w hSw; (try dsimp only at hSw); go_simp; first | done | with_reducible rfl)
                try simp only [Act.put, List.setIfInBounds_toArray, List.set_cons_zero, List.set_cons_succ]
                refine wpAnyH_take (i := 17) (oi := ⟨some 69, _, _, _, _, _⟩) (v := ?_) rfl (by kernel_rfl) (by kernel_rfl) (by kernel_rfl) (fun _ _ _ h => h) (Or.inl ⟨by rfl, ?_⟩) (by assumption) ?_
                rotate_left
                focus (intro w hSw; (try dsimp only at hSw); go_simp; first | done | with_reducible rfl)
                try simp only [Act.put, List.setIfInBounds_toArray, List.set_cons_zero, List.set_cons_succ]
                refine wpAnyH_take (i := 18) (oi := ⟨some 70, _, _, _, _, _⟩) (v := ?_) rfl (by kernel_rfl) (by kernel_rfl) (by kernel_rfl) (fun _ _ _ h => h) (Or.inl ⟨by rfl, ?_⟩) (by assumption) ?_
                rotate_left
                focus (intro w hSw; (try dsimp only at hSw); go_simp; first | done | with_reducible rfl)
                try simp only [Act.put, List.setIfInBounds_toArray, List.set_cons_zero, List.set_cons_succ]
                refine wpAnyH_take (i := 19) (oi := ⟨some 71, _, _, _, _, _⟩) (v := ?_) rfl (by kernel_rfl) (by kernel_rfl) (by kernel_rfl) (fun _ _ _ h => h) (Or.inl ⟨by rfl, ?_⟩) (by assumption) ?_
                rotate_left
                focus (intro w hSw; (try dsimp only at hSw); go_simp; first | done | with_reducible rfl)
                try simp only [Act.put, List.setIfInBounds_toArray, List.set_cons_zero, List.set_cons_succ]
                refine wpAnyH_take (i := 20) (oi := ⟨some 72, _, _, _, _, _⟩) (v := ?_) rfl (by kernel_rfl) (by kernel_rfl) (by kernel_rfl) (fun _ _ _ h => h) (Or.inl ⟨by rfl, ?_⟩) (by assumption) ?_
                rotate_left
                focus (intro w hSw; (try dsimp only at hSw); go_simp; first | done | with_reducible rfl)
                try simp only [Act.put, List.setIfInBounds_toArray, List.set_cons_zero, List.set_cons_succ]
                refine wpAnyH_take (i := 21) (oi := ⟨some 73, _, _, _, _, _⟩) (v := ?_) rfl (by kernel_rfl) (by kernel_rfl) (by kernel_rfl) (fun _ _ _ h => h) (Or.inl ⟨by rfl, ?_⟩) (by assumption) ?_
                rotate_left
                focus (intro w hSw; (try dsimp only at hSw); go_simp; first | done | with_reducible rfl)
                try simp only [Act.put, List.setIfInBounds_toArray, List.set_cons_zero, List.set_cons_succ]
                refine wpAnyH_take (i := 22) (oi := ⟨some 74, _, _, _, _, _⟩) (v := ?_) rfl (by kernel_rfl) (by kernel_rfl) (by kernel_rfl) (fun _ _ _ h => h) (Or.inl ⟨by rfl, ?_⟩) (by assumption) ?_
                rotate_left
                focus (intro w hSw; (try dsimp only at hSw); go_simp; first | done | with_reducible rfl)
                try simp only [Act.put, List.setIfInBounds_toArray, List.set_cons_zero, List.set_cons_succ]
                refine wpAnyH_take (i := 23) (oi := ⟨some 75, _, _, _, _, _⟩) (v := ?_) rfl (by kernel_rfl) (by kernel_rfl) (by kernel_rfl) (fun _ _ _ h => h) (Or.inl ⟨by rfl, ?_⟩) (by assumption) ?_
                rotate_left
                focus (intro w hSw; (try dsimp only at hSw); go_simp; first | done | with_reducible rfl)
                try simp only [Act.put, List.setIfInBounds_toArray, List.set_cons_zero, List.set_cons_succ]
                refine wpAnyH_take (i := 24) (oi := ⟨some 76, _, _, _, _, _⟩) (v := ?_) rfl (by kernel_rfl) (by kernel_rfl) (by kernel_rfl) (fun _ _ _ h => h) (Or.inl ⟨by rfl, ?_⟩) (by assumption) ?_
                rotate_left
                focus (intro w hSw; (try dsimp only at hSw); go_simp; first | done | with_reducible rfl)
                try simp only [Act.put, List.setIfInBounds_toArray, List.set_cons_zero, List.set_cons_succ]
                refine wpAnyH_take (i := 25) (oi := ⟨some 77, _, _, _, _, _⟩) (v := ?_) rfl (by kernel_rfl) (by kernel_rfl) (by kernel_rfl) (fun _ _ _ h => h) (Or.inl ⟨by rfl, ?_⟩) (by assumption) ?_
                rotate_left
                focus (intro w hSw; (try dsimp only at hSw); go_simp; first | done | with_reducible rfl)
                try simp only [Act.put, List.setIfInBounds_toArray, List.set_cons_zero, List.set_cons_succ]
                refine wpAnyH_take (i := 26) (oi := ⟨some 78, _, _, _, _, _⟩) (v := ?_) rfl (by kernel_rfl) (by kernel_rfl) (by kernel_rfl) (fun _ _ _ h => h) (Or.inl ⟨by rfl, ?_⟩) (by assumption) ?_
                rotate_left
                focus (intro w hSw; (try dsimp only at hSw); go_simp; first | done | with_reducible rfl)
                try simp only [Act.put, List.setIfInBounds_toArray, List.set_cons_zero, List.set_cons_succ]
                refine wpAnyH_ready (rs := [27]) (by kernel_rfl) (by simp) ?_
                refine AllReadyH.cons (o := ⟨some 79, _, _, _, _, _⟩) rfl (fun K hK => ?_) AllReadyH.nil
                go_simp
                with_reducible refine (cmp_any ⟨v.a, xb, xc⟩ y _).mono ?_; rintro e w3 ⟨rfl, hb⟩
                go_wp2_with fail
                refine hK.out _ _ (by exact ⟨Lib.hid (hHeld.1.out.trans (hb.mono hHeld.1.out.size)), keep_cell hb hHeld.2.1, keep_cell hb hHeld.2.2.1, keep_cell hb hHeld.2.2.2.1, keep_cell hb hHeld.2.2.2.2.1, keep_cell hb hHeld.2.2.2.2.2.1, keep_cell hb hHeld.2.2.2.2.2.2⟩) (fun hNew => ?_)
                clear hK K
                clear hHeld hb; have hHeld := hNew; clear hNew
                try simp only [Act.put, List.setIfInBounds_toArray, List.set_cons_zero, List.set_cons_succ]
                refine wpAnyH_take (i := 28) (oi := ⟨some 80, _, _, _, _, _⟩) (v := ?_) rfl (by kernel_rfl) (by kernel_rfl) (by kernel_rfl) (fun _ _ _ h => h) (Or.inl ⟨by rfl, ?_⟩) (by assumption) ?_
                rotate_left
                focus (intro w hSw; (try dsimp only at hSw); go_simp; first | done | with_reducible rfl)
                try simp only [Act.put, List.setIfInBounds_toArray, List.set_cons_zero, List.set_cons_succ]
                refine wpAnyH_take (i := 29) (oi := ⟨some 81, _, _, _, _, _⟩) (v := ?_) rfl (by kernel_rfl) (by kernel_rfl) (by kernel_rfl) (fun _ _ _ h => h) (Or.inl ⟨by rfl, ?_⟩) (by assumption) ?_
                rotate_left
                focus (intro w hSw; (try dsimp only at hSw); go_simp; first | done | with_reducible rfl)
                try simp only [Act.put, List.setIfInBounds_toArray, List.set_cons_zero, List.set_cons_succ]
                refine wpAnyH_take (i := 30) (oi := ⟨some 82, _, _, _, _, _⟩) (v := ?_) rfl (by kernel_rfl) (by kernel_rfl) (by kernel_rfl) (fun _ _ _ h => h) (Or.inl ⟨by rfl, ?_⟩) (by assumption) ?_
                rotate_left
                focus (intro w hSw; (try dsimp only at hSw); go_simp; first | done | with_reducible rfl)
                try simp only [Act.put, List.setIfInBounds_toArray, List.set_cons_zero, List.set_cons_succ]
                refine wpAnyH_take (i := 31) (oi := ⟨some 83, _, _, _, _, _⟩) (v := ?_) rfl (by kernel_rfl) (by kernel_rfl) (by kernel_rfl) (fun _ _ _ h => h) (Or.inl ⟨by rfl, ?_⟩) (by assumption) ?_
                rotate_left
                focus (intro w hSw; (try dsimp only at hSw); go_simp; first | done | with_reducible rfl)
                try simp only [Act.put, List.setIfInBounds_toArray, List.set_cons_zero, List.set_cons_succ]
                refine wpAnyH_done (by kernel_rfl) ?_ _
                have HBX := hHeld.1.out
                go_wp2
                go_roundw
                case rel => exact ⟨k + 1, by omega, by go_num, HBX⟩
                case measure => simp [intOf]; omega
          · have x0' : wr.cell? ⟨b, o + k * 3, none⟩ = some (.int .i64 v.a) := x0
            have x1' : wr.cell? ⟨b, o + k * 3 + 1, none⟩ = some (.int .i64 v.b) := x1
            have x2' : wr.cell? ⟨b, o + k * 3 + 2, none⟩ = some (.int .i64 xc) := x2
            clear x0 x1 x2
            rcases cmp_is (x := ⟨v.a, v.b, xc⟩) (v := v) with ⟨hc, hl1, hl2⟩ | ⟨hc, hl1, hl2⟩ | ⟨hc, hl1, hl2⟩
            rotate_left 2
            · exact absurd ((Sv.cmp_zero _ v).1 hc) HNE.out
            · skip
              have HC := Lib.hid (fun W => cmp_lit ⟨v.a, v.b, xc⟩ v _ hc W)
              have HL := Lib.hid hl1
              clear hc hl1 hl2
              cases A with
              | none => exact absurd HL.out (by rw [HBel.out ⟨v.a, v.b, xc⟩ HMem.out rfl]; decide)
              | some y =>
                obtain ⟨bA, hqa, hna1, hat⟩ := HA.out.at
                subst hqa hna1
                have hcm : Sv.cmp ⟨v.a, v.b, xc⟩ y ≤ 0 := by
                  rcases Int.lt_or_le 0 (Sv.cmp ⟨v.a, v.b, xc⟩ y) with h | h
                  · have h2 := (Sv.cmp_pos ⟨v.a, v.b, xc⟩ y).1 h
                    rw [HBel.out.2.2.2 ⟨v.a, v.b, xc⟩ HMem.out rfl HL.out] at h2
                    cases h2
                  · exact h
                have dC : decide (0 < Sv.cmp ⟨v.a, v.b, xc⟩ y) = false := by simpa using hcm
                clear hcm
                obtain ⟨a0, a1, a2⟩ := hat.below HB.out hat.lt
                have halt : bA < wr.heap.size := by have := hat.lt; omega
                clear hat
                go_wp2_with (go_at_call 7; ((with_reducible refine (HC.out _).mono ?_); rintro e w2 ⟨rfl, hb2⟩; obtain ⟨hc2, hf2⟩ := bcell hb2; have z2 := hb2.size; rw [World.size_alloc] at z2))
                have t0 : w2.cell? ⟨wr.heap.size, 0, none⟩ = some (.int .i64 v.a) := (hb2.cell (p := ⟨wr.heap.size, 0, none⟩) (by simp)).trans (hb_at (hb_new wr _) 0 rfl)
                have t1 : w2.cell? ⟨wr.heap.size, 1, none⟩ = some (.int .i64 v.b) := (hb2.cell (p := ⟨wr.heap.size, 1, none⟩) (by simp)).trans (hb_at (hb_new wr _) 1 rfl)
                have t2 : w2.cell? ⟨wr.heap.size, 2, none⟩ = some (.int .i64 xc) := (hb2.cell (p := ⟨wr.heap.size, 2, none⟩) (by simp)).trans (hb_at (hb_new wr _) 2 rfl)
                have hbb : Below wr.heap.size wr w2 := (below_alloc wr _).trans (hb2.mono (by simp))
                have b0 : w2.cell? ⟨bA, 0, none⟩ = some (.int .i64 y.a) := (hbb.cell (p := ⟨bA, 0, none⟩) halt).trans a0
                have b1 : w2.cell? ⟨bA, 1, none⟩ = some (.int .i64 y.b) := (hbb.cell (p := ⟨bA, 1, none⟩) halt).trans a1
                have b2 : w2.cell? ⟨bA, 2, none⟩ = some (.int .i64 y.c) := (hbb.cell (p := ⟨bA, 2, none⟩) halt).trans a2
                have HBT := Lib.hid (HB.out.trans (hbb.mono hzr))
                clear hc2 hf2 hbb hb2
                refine wp_region_held_drew (S := (fun w' => RowKit.Hid (Below w1.heap.size w1 w') ∧ w'.cell? ⟨wr.heap.size, 0, none⟩ = some (.int .i64 v.a) ∧ w'.cell? ⟨wr.heap.size, 1, none⟩ = some (.int .i64 v.b) ∧ w'.cell? ⟨wr.heap.size, 2, none⟩ = some (.int .i64 xc) ∧ w'.cell? ⟨bA, 0, none⟩ = some (.int .i64 y.a) ∧ w'.cell? ⟨bA, 1, none⟩ = some (.int .i64 y.b) ∧ w'.cell? ⟨bA, 2, none⟩ = some (.int .i64 y.c))) (by kernel_rfl) (by exact ⟨Lib.hid (below_drewN HBT.out 1), t0, t1, t2, b0, b1, b2⟩) (fun hHeld => ?_)
                refine wpAnyH_take (i := 0) (oi := ⟨some 52, _, _, _, _, _⟩) (v := ?_) rfl (by kernel_rfl) (by kernel_rfl) (by kernel_rfl) (fun _ _ _ h => h) (Or.inl ⟨by rfl, ?_⟩) (by assumption) ?_
                rotate_left
                focus (intro w hSw; (try dsimp only at hSw); go_simp; first | done | with_reducible rfl)
                try simp only [Act.put, List.setIfInBounds_toArray, List.set_cons_zero, List.set_cons_succ]
                refine wpAnyH_take (i := 1) (oi := ⟨some 53, _, _, _, _, _⟩) (v := ?_) rfl (by kernel_rfl) (by kernel_rfl) (by kernel_rfl) (fun _ _ _ h => h) (Or.inl ⟨by rfl, ?_⟩) (by assumption) ?_
                rotate_left
                focus (intro w hSw; (try dsimp only at hSw); go_simp; first | done | with_reducible rfl)
                try simp only [Act.put, List.setIfInBounds_toArray, List.set_cons_zero, List.set_cons_succ]
                refine wpAnyH_take (i := 2) (oi := ⟨some 54, _, _, _, _, _⟩) (v := ?_) rfl (by kernel_rfl) (by kernel_rfl) (by kernel_rfl) (fun _ _ _ h => h) (Or.inl ⟨by rfl, ?_⟩) (by assumption) ?_
                rotate_left
                focus (intro w hSw; (try dsimp only at hSw); go_simp; first | done | with_reducible rfl)
                try simp only [Act.put, List.setIfInBounds_toArray, List.set_cons_zero, List.set_cons_succ]
                refine wpAnyH_take (i := 3) (oi := ⟨some 55, _, _, _, _, _⟩) (v := ?_) rfl (by kernel_rfl) (by kernel_rfl) (by kernel_rfl) (fun _ _ _ h => h) (Or.inl ⟨by rfl, ?_⟩) (by assumption) ?_
                rotate_left
                focus (intro w hSw; (try dsimp only at hSw); go_simp; first | done | with_reducible rfl)
                try simp only [Act.put, List.setIfInBounds_toArray, List.set_cons_zero, List.set_cons_succ]
                refine wpAnyH_take (i := 4) (oi := ⟨some 56, _, _, _, _, _⟩) (v := ?_) rfl (by kernel_rfl) (by kernel_rfl) (by kernel_rfl) (fun _ _ _ h => h) (Or.inl ⟨by rfl, ?_⟩) (by assumption) ?_
                rotate_left
                focus (intro w hSw; (try dsimp only at hSw); go_simp; first | done | with_reducible rfl)
                try simp only [Act.put, List.setIfInBounds_toArray, List.set_cons_zero, List.set_cons_succ]
                refine wpAnyH_take (i := 5) (oi := ⟨some 57, _, _, _, _, _⟩) (v := ?_) rfl (by kernel_rfl) (by kernel_rfl) (by kernel_rfl) (fun _ _ _ h => h) (Or.inl ⟨by rfl, ?_⟩) (by assumption) ?_
                rotate_left
                focus (intro w hSw; (try dsimp only at hSw); go_simp; first | done | with_reducible rfl)
                try simp only [Act.put, List.setIfInBounds_toArray, List.set_cons_zero, List.set_cons_succ]
                refine wpAnyH_take (i := 6) (oi := ⟨some 58, _, _, _, _, _⟩) (v := ?_) rfl (by kernel_rfl) (by kernel_rfl) (by kernel_rfl) (fun _ _ _ h => h) (Or.inl ⟨by rfl, ?_⟩) (by assumption) ?_
                rotate_left
                focus (intro w hSw; (try dsimp only at hSw); go_simp; first | done | with_reducible rfl)
                try simp only [Act.put, List.setIfInBounds_toArray, List.set_cons_zero, List.set_cons_succ]
                refine wpAnyH_take (i := 7) (oi := ⟨some 59, _, _, _, _, _⟩) (v := ?_) rfl (by kernel_rfl) (by kernel_rfl) (by kernel_rfl) (fun _ _ _ h => h) (Or.inl ⟨by rfl, ?_⟩) (by assumption) ?_
                rotate_left
                focus (intro w hSw; (try dsimp only at hSw); go_simp; first | done | with_reducible rfl)
                try simp only [Act.put, List.setIfInBounds_toArray, List.set_cons_zero, List.set_cons_succ]
                refine wpAnyH_take (i := 8) (oi := ⟨some 60, _, _, _, _, _⟩) (v := ?_) rfl (by kernel_rfl) (by kernel_rfl) (by kernel_rfl) (fun _ _ _ h => h) (Or.inl ⟨by rfl, ?_⟩) (by assumption) ?_
                rotate_left
                focus (intro w hSw; (try dsimp only at hSw); go_simp; first | done | with_reducible rfl)
                try simp only [Act.put, List.setIfInBounds_toArray, List.set_cons_zero, List.set_cons_succ]
                refine wpAnyH_take (i := 9) (oi := ⟨some 61, _, _, _, _, _⟩) (v := ?_) rfl (by kernel_rfl) (by kernel_rfl) (by kernel_rfl) (fun _ _ _ h => h) (Or.inl ⟨by rfl, ?_⟩) (by assumption) ?_
                rotate_left
                focus (intro w hSw; (try dsimp only at hSw); go_simp; first | done | with_reducible rfl)
                try simp only [Act.put, List.setIfInBounds_toArray, List.set_cons_zero, List.set_cons_succ]
                refine wpAnyH_take (i := 10) (oi := ⟨some 62, _, _, _, _, _⟩) (v := ?_) rfl (by kernel_rfl) (by kernel_rfl) (by kernel_rfl) (fun _ _ _ h => h) (Or.inl ⟨by rfl, ?_⟩) (by assumption) ?_
                rotate_left
                focus (intro w hSw; (try dsimp only at hSw); go_simp; first | done | with_reducible rfl)
                try simp only [Act.put, List.setIfInBounds_toArray, List.set_cons_zero, List.set_cons_succ]
                refine wpAnyH_ready (rs := [11]) (by kernel_rfl) (by simp) ?_
                refine AllReadyH.cons (o := ⟨some 63, _, _, _, _, _⟩) rfl (fun K hK => ?_) AllReadyH.nil
                go_simp
                with_reducible refine (cmp_any ⟨v.a, v.b, xc⟩ y _).mono ?_; rintro e w3 ⟨rfl, hb⟩
                go_wp2_with fail
                refine hK.out _ _ (by exact ⟨Lib.hid (hHeld.1.out.trans (hb.mono hHeld.1.out.size)), keep_cell hb hHeld.2.1, keep_cell hb hHeld.2.2.1, keep_cell hb hHeld.2.2.2.1, keep_cell hb hHeld.2.2.2.2.1, keep_cell hb hHeld.2.2.2.2.2.1, keep_cell hb hHeld.2.2.2.2.2.2⟩) (fun hNew => ?_)
                clear hK K
                clear hHeld hb; have hHeld := hNew; clear hNew
                try simp only [Act.put, List.setIfInBounds_toArray, List.set_cons_zero, List.set_cons_succ]
                refine wpAnyH_take (i := 12) (oi := ⟨some 64, _, _, _, _, _⟩) (v := ?_) rfl (by kernel_rfl) (by kernel_rfl) (by kernel_rfl) (fun _ _ _ h => h) (Or.inl ⟨by rfl, ?_⟩) (by assumption) ?_
                rotate_left
                focus (intro w hSw; (try dsimp only at hSw); go_simp; first | done | with_reducible rfl)
                try simp only [Act.put, List.setIfInBounds_toArray, List.set_cons_zero, List.set_cons_succ]
                refine wpAnyH_take (i := 13) (oi := ⟨some 65, _, _, _, _, _⟩) (v := ?_) rfl (by kernel_rfl) (by kernel_rfl) (by kernel_rfl) (fun _ _ _ h => h) (Or.inl ⟨by rfl, ?_⟩) (by assumption) ?_
                rotate_left
                focus (intro w hSw; (try dsimp only at hSw); go_simp; first | done | with_reducible rfl)
                try simp only [Act.put, List.setIfInBounds_toArray, List.set_cons_zero, List.set_cons_succ]
                refine wpAnyH_take (i := 14) (oi := ⟨some 66, _, _, _, _, _⟩) (v := ?_) rfl (by kernel_rfl) (by kernel_rfl) (by kernel_rfl) (fun _ _ _ h => h) (Or.inl ⟨by rfl, ?_⟩) (by assumption) ?_
                rotate_left
                focus (intro w hSw; (try dsimp only at hSw); go_simp; first | done | with_reducible rfl)
                try simp only [Act.put, List.setIfInBounds_toArray, List.set_cons_zero, List.set_cons_succ]
                refine wpAnyH_take (i := 15) (oi := ⟨some 67, _, _, _, _, _⟩) (v := ?_) rfl (by kernel_rfl) (by kernel_rfl) (by kernel_rfl) (fun _ _ _ h => h) (Or.inl ⟨by rfl, ?_⟩) (by assumption) ?_
                rotate_left
                focus (intro w hSw; (try dsimp only at hSw); go_simp; first | done | with_reducible rfl)
                try simp only [Act.put, List.setIfInBounds_toArray, List.set_cons_zero, List.set_cons_succ]
                refine wpAnyH_take (i := 16) (oi := ⟨some 68, _, _, _, _, _⟩) (v := ?_) rfl (by kernel_rfl) (by kernel_rfl) (by kernel_rfl) (fun _ _ _ h => h) (Or.inl ⟨by rfl, ?_⟩) (by assumption) ?_
                rotate_left
                focus (intro w hSw; (try dsimp only at hSw); go_simp; first | done | with_reducible rfl)
                try simp only [Act.put, List.setIfInBounds_toArray, List.set_cons_zero, List.set_cons_succ]
                refine wpAnyH_take (i := 17) (oi := ⟨some 69, _, _, _, _, _⟩) (v := ?_) rfl (by kernel_rfl) (by kernel_rfl) (by kernel_rfl) (fun _ _ _ h => h) (Or.inl ⟨by rfl, ?_⟩) (by assumption) ?_
                rotate_left
                focus (intro w hSw; (try dsimp only at hSw); go_simp; first | done | with_reducible rfl)
                try simp only [Act.put, List.setIfInBounds_toArray, List.set_cons_zero, List.set_cons_succ]
                refine wpAnyH_take (i := 18) (oi := ⟨some 70, _, _, _, _, _⟩) (v := ?_) rfl (by kernel_rfl) (by kernel_rfl) (by kernel_rfl) (fun _ _ _ h => h) (Or.inl ⟨by rfl, ?_⟩) (by assumption) ?_
                rotate_left
                focus (intro w hSw; (try dsimp only at hSw); go_simp; first | done | with_reducible rfl)
                try simp only [Act.put, List.setIfInBounds_toArray, List.set_cons_zero, List.set_cons_succ]
                refine wpAnyH_take (i := 19) (oi := ⟨some 71, _, _, _, _, _⟩) (v := undef) rfl (by kernel_rfl) (by kernel_rfl) (by kernel_rfl) (fun _ _ _ h => h) (Or.inr ⟨by rfl, rfl⟩) (by assumption) ?_
                try simp only [Act.put, List.setIfInBounds_toArray, List.set_cons_zero, List.set_cons_succ]
                refine wpAnyH_take (i := 20) (oi := ⟨some 72, _, _, _, _, _⟩) (v := undef) rfl (by kernel_rfl) (by kernel_rfl) (by kernel_rfl) (fun _ _ _ h => h) (Or.inr ⟨by rfl, rfl⟩) (by assumption) ?_
                try simp only [Act.put, List.setIfInBounds_toArray, List.set_cons_zero, List.set_cons_succ]
                refine wpAnyH_take (i := 21) (oi := ⟨some 73, _, _, _, _, _⟩) (v := undef) rfl (by kernel_rfl) (by kernel_rfl) (by kernel_rfl) (fun _ _ _ h => h) (Or.inr ⟨by rfl, rfl⟩) (by assumption) ?_
                try simp only [Act.put, List.setIfInBounds_toArray, List.set_cons_zero, List.set_cons_succ]
                refine wpAnyH_take (i := 22) (oi := ⟨some 74, _, _, _, _, _⟩) (v := undef) rfl (by kernel_rfl) (by kernel_rfl) (by kernel_rfl) (fun _ _ _ h => h) (Or.inr ⟨by rfl, rfl⟩) (by assumption) ?_
                try simp only [Act.put, List.setIfInBounds_toArray, List.set_cons_zero, List.set_cons_succ]
                refine wpAnyH_take (i := 23) (oi := ⟨some 75, _, _, _, _, _⟩) (v := undef) rfl (by kernel_rfl) (by kernel_rfl) (by kernel_rfl) (fun _ _ _ h => h) (Or.inr ⟨by rfl, rfl⟩) (by assumption) ?_
                try simp only [Act.put, List.setIfInBounds_toArray, List.set_cons_zero, List.set_cons_succ]
                refine wpAnyH_take (i := 24) (oi := ⟨some 76, _, _, _, _, _⟩) (v := undef) rfl (by kernel_rfl) (by kernel_rfl) (by kernel_rfl) (fun _ _ _ h => h) (Or.inr ⟨by rfl, rfl⟩) (by assumption) ?_
                try simp only [Act.put, List.setIfInBounds_toArray, List.set_cons_zero, List.set_cons_succ]
                refine wpAnyH_take (i := 25) (oi := ⟨some 77, _, _, _, _, _⟩) (v := undef) rfl (by kernel_rfl) (by kernel_rfl) (by kernel_rfl) (fun _ _ _ h => h) (Or.inr ⟨by rfl, rfl⟩) (by assumption) ?_
                try simp only [Act.put, List.setIfInBounds_toArray, List.set_cons_zero, List.set_cons_succ]
                refine wpAnyH_take (i := 26) (oi := ⟨some 78, _, _, _, _, _⟩) (v := undef) rfl (by kernel_rfl) (by kernel_rfl) (by kernel_rfl) (fun _ _ _ h => h) (Or.inr ⟨by rfl, rfl⟩) (by assumption) ?_
                try simp only [Act.put, List.setIfInBounds_toArray, List.set_cons_zero, List.set_cons_succ]
                refine wpAnyH_take (i := 27) (oi := ⟨some 79, _, _, _, _, _⟩) (v := undef) rfl (by kernel_rfl) (by kernel_rfl) (by kernel_rfl) (fun _ _ _ h => h) (Or.inr ⟨by rfl, rfl⟩) (by assumption) ?_
                try simp only [Act.put, List.setIfInBounds_toArray, List.set_cons_zero, List.set_cons_succ]
                refine wpAnyH_take (i := 28) (oi := ⟨some 80, _, _, _, _, _⟩) (v := undef) rfl (by kernel_rfl) (by kernel_rfl) (by kernel_rfl) (fun _ _ _ h => h) (Or.inr ⟨by rfl, rfl⟩) (by assumption) ?_
                try simp only [Act.put, List.setIfInBounds_toArray, List.set_cons_zero, List.set_cons_succ]
                refine wpAnyH_take (i := 29) (oi := ⟨some 81, _, _, _, _, _⟩) (v := undef) rfl (by kernel_rfl) (by kernel_rfl) (by kernel_rfl) (fun _ _ _ h => h) (Or.inr ⟨by rfl, rfl⟩) (by assumption) ?_
                try simp only [Act.put, List.setIfInBounds_toArray, List.set_cons_zero, List.set_cons_succ]
                refine wpAnyH_take (i := 30) (oi := ⟨some 82, _, _, _, _, _⟩) (v := ?_) rfl (by kernel_rfl) (by kernel_rfl) (by kernel_rfl) (fun _ _ _ h => h) (Or.inl ⟨by rfl, ?_⟩) (by assumption) ?_
                rotate_left
                focus (intro w hSw; (try dsimp only at hSw); go_simp; first | done | with_reducible rfl)
                try simp only [Act.put, List.setIfInBounds_toArray, List.set_cons_zero, List.set_cons_succ]
                refine wpAnyH_take (i := 31) (oi := ⟨some 83, _, _, _, _, _⟩) (v := ?_) rfl (by kernel_rfl) (by kernel_rfl) (by kernel_rfl) (fun _ _ _ h => h) (Or.inl ⟨by rfl, ?_⟩) (by assumption) ?_
                rotate_left
                focus (intro w hSw; (try dsimp only at hSw); go_simp; first | done | with_reducible rfl)
                try simp only [Act.put, List.setIfInBounds_toArray, List.set_cons_zero, List.set_cons_succ]
                refine wpAnyH_done (by kernel_rfl) ?_ _
                have HBX := hHeld.1.out
                go_wp2
                go_roundw
                case rel => exact ⟨k + 1, by omega, by go_num, HBX⟩
                case measure => simp [intOf]; omega
            · skip
              have HC := Lib.hid (fun W => cmp_lit ⟨v.a, v.b, xc⟩ v _ hc W)
              have HL := Lib.hid hl1
              clear hc hl1 hl2
              cases B with
              | none => exact absurd HL.out (by rw [HAbv.out ⟨v.a, v.b, xc⟩ HMem.out rfl]; decide)
              | some y =>
                obtain ⟨bA, hqa, hna1, hat⟩ := HBB.out.at
                subst hqa hna1
                have hcm : 0 ≤ Sv.cmp ⟨v.a, v.b, xc⟩ y := by
                  rcases Int.lt_or_le (Sv.cmp ⟨v.a, v.b, xc⟩ y) 0 with h | h
                  · have h2 := (Sv.cmp_neg ⟨v.a, v.b, xc⟩ y).1 h
                    rw [HAbv.out.2.2.2 ⟨v.a, v.b, xc⟩ HMem.out rfl HL.out] at h2
                    cases h2
                  · exact h
                have dC : decide (Sv.cmp ⟨v.a, v.b, xc⟩ y < 0) = false := by simpa using hcm
                clear hcm
                obtain ⟨a0, a1, a2⟩ := hat.below HB.out hat.lt
                have halt : bA < wr.heap.size := by have := hat.lt; omega
                clear hat
                go_wp2_with (go_at_call 7; ((with_reducible refine (HC.out _).mono ?_); rintro e w2 ⟨rfl, hb2⟩; obtain ⟨hc2, hf2⟩ := bcell hb2; have z2 := hb2.size; rw [World.size_alloc] at z2))
                have t0 : w2.cell? ⟨wr.heap.size, 0, none⟩ = some (.int .i64 v.a) := (hb2.cell (p := ⟨wr.heap.size, 0, none⟩) (by simp)).trans (hb_at (hb_new wr _) 0 rfl)
                have t1 : w2.cell? ⟨wr.heap.size, 1, none⟩ = some (.int .i64 v.b) := (hb2.cell (p := ⟨wr.heap.size, 1, none⟩) (by simp)).trans (hb_at (hb_new wr _) 1 rfl)
                have t2 : w2.cell? ⟨wr.heap.size, 2, none⟩ = some (.int .i64 xc) := (hb2.cell (p := ⟨wr.heap.size, 2, none⟩) (by simp)).trans (hb_at (hb_new wr _) 2 rfl)
                have hbb : Below wr.heap.size wr w2 := (below_alloc wr _).trans (hb2.mono (by simp))
                have b0 : w2.cell? ⟨bA, 0, none⟩ = some (.int .i64 y.a) := (hbb.cell (p := ⟨bA, 0, none⟩) halt).trans a0
                have b1 : w2.cell? ⟨bA, 1, none⟩ = some (.int .i64 y.b) := (hbb.cell (p := ⟨bA, 1, none⟩) halt).trans a1
                have b2 : w2.cell? ⟨bA, 2, none⟩ = some (.int .i64 y.c) := (hbb.cell (p := ⟨bA, 2, none⟩) halt).trans a2
                have HBT := Lib.hid (HB.out.trans (hbb.mono hzr))
                clear hc2 hf2 hbb hb2
                refine wp_region_held_drew (S := (fun w' => RowKit.Hid (Below w1.heap.size w1 w') ∧ w'.cell? ⟨wr.heap.size, 0, none⟩ = some (.int .i64 v.a) ∧ w'.cell? ⟨wr.heap.size, 1, none⟩ = some (.int .i64 v.b) ∧ w'.cell? ⟨wr.heap.size, 2, none⟩ = some (.int .i64 xc) ∧ w'.cell? ⟨bA, 0, none⟩ = some (.int .i64 y.a) ∧ w'.cell? ⟨bA, 1, none⟩ = some (.int .i64 y.b) ∧ w'.cell? ⟨bA, 2, none⟩ = some (.int .i64 y.c))) (by kernel_rfl) (by exact ⟨Lib.hid (below_drewN HBT.out 1), t0, t1, t2, b0, b1, b2⟩) (fun hHeld => ?_)
                refine wpAnyH_take (i := 0) (oi := ⟨some 52, _, _, _, _, _⟩) (v := ?_) rfl (by kernel_rfl) (by kernel_rfl) (by kernel_rfl) (fun _ _ _ h => h) (Or.inl ⟨by rfl, ?_⟩) (by assumption) ?_
                rotate_left
                focus (intro w hSw; (try dsimp only at hSw); go_simp; first | done | with_reducible rfl)
                try simp only [Act.put, List.setIfInBounds_toArray, List.set_cons_zero, List.set_cons_succ]
                refine wpAnyH_take (i := 1) (oi := ⟨some 53, _, _, _, _, _⟩) (v := ?_) rfl (by kernel_rfl) (by kernel_rfl) (by kernel_rfl) (fun _ _ _ h => h) (Or.inl ⟨by rfl, ?_⟩) (by assumption) ?_
                rotate_left
                focus (intro w hSw; (try dsimp only at hSw); go_simp; first | done | with_reducible rfl)
                try simp only [Act.put, List.setIfInBounds_toArray, List.set_cons_zero, List.set_cons_succ]
                refine wpAnyH_take (i := 2) (oi := ⟨some 54, _, _, _, _, _⟩) (v := ?_) rfl (by kernel_rfl) (by kernel_rfl) (by kernel_rfl) (fun _ _ _ h => h) (Or.inl ⟨by rfl, ?_⟩) (by assumption) ?_
                rotate_left
                focus (intro w hSw; (try dsimp only at hSw); go_simp; first | done | with_reducible rfl)
                try simp only [Act.put, List.setIfInBounds_toArray, List.set_cons_zero, List.set_cons_succ]
                refine wpAnyH_take (i := 3) (oi := ⟨some 55, _, _, _, _, _⟩) (v := undef) rfl (by kernel_rfl) (by kernel_rfl) (by kernel_rfl) (fun _ _ _ h => h) (Or.inr ⟨by rfl, rfl⟩) (by assumption) ?_
                try simp only [Act.put, List.setIfInBounds_toArray, List.set_cons_zero, List.set_cons_succ]
                refine wpAnyH_take (i := 4) (oi := ⟨some 56, _, _, _, _, _⟩) (v := undef) rfl (by kernel_rfl) (by kernel_rfl) (by kernel_rfl) (fun _ _ _ h => h) (Or.inr ⟨by rfl, rfl⟩) (by assumption) ?_
                try simp only [Act.put, List.setIfInBounds_toArray, List.set_cons_zero, List.set_cons_succ]
                refine wpAnyH_take (i := 5) (oi := ⟨some 57, _, _, _, _, _⟩) (v := undef) rfl (by kernel_rfl) (by kernel_rfl) (by kernel_rfl) (fun _ _ _ h => h) (Or.inr ⟨by rfl, rfl⟩) (by assumption) ?_
                try simp only [Act.put, List.setIfInBounds_toArray, List.set_cons_zero, List.set_cons_succ]
                refine wpAnyH_take (i := 6) (oi := ⟨some 58, _, _, _, _, _⟩) (v := undef) rfl (by kernel_rfl) (by kernel_rfl) (by kernel_rfl) (fun _ _ _ h => h) (Or.inr ⟨by rfl, rfl⟩) (by assumption) ?_
                try simp only [Act.put, List.setIfInBounds_toArray, List.set_cons_zero, List.set_cons_succ]
                refine wpAnyH_take (i := 7) (oi := ⟨some 59, _, _, _, _, _⟩) (v := undef) rfl (by kernel_rfl) (by kernel_rfl) (by kernel_rfl) (fun _ _ _ h => h) (Or.inr ⟨by rfl, rfl⟩) (by assumption) ?_
                try simp only [Act.put, List.setIfInBounds_toArray, List.set_cons_zero, List.set_cons_succ]
                refine wpAnyH_take (i := 8) (oi := ⟨some 60, _, _, _, _, _⟩) (v := undef) rfl (by kernel_rfl) (by kernel_rfl) (by kernel_rfl) (fun _ _ _ h => h) (Or.inr ⟨by rfl, rfl⟩) (by assumption) ?_
                try simp only [Act.put, List.setIfInBounds_toArray, List.set_cons_zero, List.set_cons_succ]
                refine wpAnyH_take (i := 9) (oi := ⟨some 61, _, _, _, _, _⟩) (v := undef) rfl (by kernel_rfl) (by kernel_rfl) (by kernel_rfl) (fun _ _ _ h => h) (Or.inr ⟨by rfl, rfl⟩) (by assumption) ?_
                try simp only [Act.put, List.setIfInBounds_toArray, List.set_cons_zero, List.set_cons_succ]
                refine wpAnyH_take (i := 10) (oi := ⟨some 62, _, _, _, _, _⟩) (v := undef) rfl (by kernel_rfl) (by kernel_rfl) (by kernel_rfl) (fun _ _ _ h => h) (Or.inr ⟨by rfl, rfl⟩) (by assumption) ?_
                try simp only [Act.put, List.setIfInBounds_toArray, List.set_cons_zero, List.set_cons_succ]
                refine wpAnyH_take (i := 11) (oi := ⟨some 63, _, _, _, _, _⟩) (v := undef) rfl (by kernel_rfl) (by kernel_rfl) (by kernel_rfl) (fun _ _ _ h => h) (Or.inr ⟨by rfl, rfl⟩) (by assumption) ?_
                try simp only [Act.put, List.setIfInBounds_toArray, List.set_cons_zero, List.set_cons_succ]
                refine wpAnyH_take (i := 12) (oi := ⟨some 64, _, _, _, _, _⟩) (v := undef) rfl (by kernel_rfl) (by kernel_rfl) (by kernel_rfl) (fun _ _ _ h => h) (Or.inr ⟨by rfl, rfl⟩) (by assumption) ?_
                try simp only [Act.put, List.setIfInBounds_toArray, List.set_cons_zero, List.set_cons_succ]
                refine wpAnyH_take (i := 13) (oi := ⟨some 65, _, _, _, _, _⟩) (v := undef) rfl (by kernel_rfl) (by kernel_rfl) (by kernel_rfl) (fun _ _ _ h => h) (Or.inr ⟨by rfl, rfl⟩) (by assumption) ?_
                try simp only [Act.put, List.setIfInBounds_toArray, List.set_cons_zero, List.set_cons_succ]
                refine wpAnyH_take (i := 14) (oi := ⟨some 66, _, _, _, _, _⟩) (v := ?_) rfl (by kernel_rfl) (by kernel_rfl) (by kernel_rfl) (fun _ _ _ h => h) (Or.inl ⟨by rfl, ?_⟩) (by assumption) ?_
                rotate_left
                focus (intro w hSw; (try dsimp only at hSw); go_simp; first | done | with_reducible rfl)
                try simp only [Act.put, List.setIfInBounds_toArray, List.set_cons_zero, List.set_cons_succ]
                refine wpAnyH_take (i := 15) (oi := ⟨some 67, _, _, _, _, _⟩) (v := ?_) rfl (by kernel_rfl) (by kernel_rfl) (by kernel_rfl) (fun _ _ _ h => h) (Or.inl ⟨by rfl, ?_⟩) (by assumption) ?_
                rotate_left
                focus (intro w hSw; (try dsimp only at hSw); go_simp; first | done | with_reducible rfl)
                try simp only [Act.put, List.setIfInBounds_toArray, List.set_cons_zero, List.set_cons_succ]
                refine wpAnyH_take (i := 16) (oi := ⟨some 68, _, _, _, _, _⟩) (v := ?_) rfl (by kernel_rfl) (by kernel_rfl) (by kernel_rfl) (fun _ _ _ h => h) (Or.inl ⟨by rfl, ?_⟩) (by assumption) ?_
                rotate_left
                focus (intro w hSw; (try dsimp only at hSw); go_simp; first | done | with_reducible rfl)
                try simp only [Act.put, List.setIfInBounds_toArray, List.set_cons_zero, List.set_cons_succ]
                refine wpAnyH_take (i := 17) (oi := ⟨some 69, _, _, _, _, _⟩) (v := ?_) rfl (by kernel_rfl) (by kernel_rfl) (by kernel_rfl) (fun _ _ _ h => h) (Or.inl ⟨by rfl, ?_⟩) (by assumption) ?_
                rotate_left
                focus (intro w hSw; (try dsimp only at hSw); go_simp; first | done | with_reducible rfl)
                try simp only [Act.put, List.setIfInBounds_toArray, List.set_cons_zero, List.set_cons_succ]
                refine wpAnyH_take (i := 18) (oi := ⟨some 70, _, _, _, _, _⟩) (v := ?_) rfl (by kernel_rfl) (by kernel_rfl) (by kernel_rfl) (fun _ _ _ h => h) (Or.inl ⟨by rfl, ?_⟩) (by assumption) ?_
                rotate_left
                focus (intro w hSw; (try dsimp only at hSw); go_simp; first | done | with_reducible rfl)
                try simp only [Act.put, List.setIfInBounds_toArray, List.set_cons_zero, List.set_cons_succ]
                refine wpAnyH_take (i := 19) (oi := ⟨some 71, _, _, _, _, _⟩) (v := ?_) rfl (by kernel_rfl) (by kernel_rfl) (by kernel_rfl) (fun _ _ _ h => h) (Or.inl ⟨by rfl, ?_⟩) (by assumption) ?_
                rotate_left
                focus (intro w hSw; (try dsimp only at hSw); go_simp; first | done | with_reducible rfl)
                try simp only [Act.put, List.setIfInBounds_toArray, List.set_cons_zero, List.set_cons_succ]
                refine wpAnyH_take (i := 20) (oi := ⟨some 72, _, _, _, _, _⟩) (v := ?_) rfl (by kernel_rfl) (by kernel_rfl) (by kernel_rfl) (fun _ _ _ h => h) (Or.inl ⟨by rfl, ?_⟩) (by assumption) ?_
                rotate_left
                focus (intro w hSw; (try dsimp only at hSw); go_simp; first | done | with_reducible rfl)
                try simp only [Act.put, List.setIfInBounds_toArray, List.set_cons_zero, List.set_cons_succ]
                refine wpAnyH_take (i := 21) (oi := ⟨some 73, _, _, _, _, _⟩) (v := ?_) rfl (by kernel_rfl) (by kernel_rfl) (by kernel_rfl) (fun _ _ _ h => h) (Or.inl ⟨by rfl, ?_⟩) (by assumption) ?_
                rotate_left
                focus (intro w hSw; (try dsimp only at hSw); go_simp; first | done | with_reducible rfl)
                try simp only [Act.put, List.setIfInBounds_toArray, List.set_cons_zero, List.set_cons_succ]
                refine wpAnyH_take (i := 22) (oi := ⟨some 74, _, _, _, _, _⟩) (v := ?_) rfl (by kernel_rfl) (by kernel_rfl) (by kernel_rfl) (fun _ _ _ h => h) (Or.inl ⟨by rfl, ?_⟩) (by assumption) ?_
                rotate_left
                focus (intro w hSw; (try dsimp only at hSw); go_simp; first | done | with_reducible rfl)
                try simp only [Act.put, List.setIfInBounds_toArray, List.set_cons_zero, List.set_cons_succ]
                refine wpAnyH_take (i := 23) (oi := ⟨some 75, _, _, _, _, _⟩) (v := ?_) rfl (by kernel_rfl) (by kernel_rfl) (by kernel_rfl) (fun _ _ _ h => h) (Or.inl ⟨by rfl, ?_⟩) (by assumption) ?_
                rotate_left
                focus (intro w hSw; (try dsimp only at hSw); go_simp; first | done | with_reducible rfl)
                try simp only [Act.put, List.setIfInBounds_toArray, List.set_cons_zero, List.set_cons_succ]
                refine wpAnyH_take (i := 24) (oi := ⟨some 76, _, _, _, _, _⟩) (v := ?_) rfl (by kernel_rfl) (by kernel_rfl) (by kernel_rfl) (fun _ _ _ h => h) (Or.inl ⟨by rfl, ?_⟩) (by assumption) ?_
                rotate_left
                focus (intro w hSw; (try dsimp only at hSw); go_simp; first | done | with_reducible rfl)
                try simp only [Act.put, List.setIfInBounds_toArray, List.set_cons_zero, List.set_cons_succ]
                refine wpAnyH_take (i := 25) (oi := ⟨some 77, _, _, _, _, _⟩) (v := ?_) rfl (by kernel_rfl) (by kernel_rfl) (by kernel_rfl) (fun _ _ _ h => h) (Or.inl ⟨by rfl, ?_⟩) (by assumption) ?_
                rotate_left
                focus (intro w hSw; (try dsimp only at hSw); go_simp; first | done | with_reducible rfl)
                try simp only [Act.put, List.setIfInBounds_toArray, List.set_cons_zero, List.set_cons_succ]
                refine wpAnyH_take (i := 26) (oi := ⟨some 78, _, _, _, _, _⟩) (v := ?_) rfl (by kernel_rfl) (by kernel_rfl) (by kernel_rfl) (fun _ _ _ h => h) (Or.inl ⟨by rfl, ?_⟩) (by assumption) ?_
                rotate_left
                focus (intro w hSw; (try dsimp only at hSw); go_simp; first | done | with_reducible rfl)
                try simp only [Act.put, List.setIfInBounds_toArray, List.set_cons_zero, List.set_cons_succ]
                refine wpAnyH_ready (rs := [27]) (by kernel_rfl) (by simp) ?_
                refine AllReadyH.cons (o := ⟨some 79, _, _, _, _, _⟩) rfl (fun K hK => ?_) AllReadyH.nil
                go_simp
                with_reducible refine (cmp_any ⟨v.a, v.b, xc⟩ y _).mono ?_; rintro e w3 ⟨rfl, hb⟩
                go_wp2_with fail
                refine hK.out _ _ (by exact ⟨Lib.hid (hHeld.1.out.trans (hb.mono hHeld.1.out.size)), keep_cell hb hHeld.2.1, keep_cell hb hHeld.2.2.1, keep_cell hb hHeld.2.2.2.1, keep_cell hb hHeld.2.2.2.2.1, keep_cell hb hHeld.2.2.2.2.2.1, keep_cell hb hHeld.2.2.2.2.2.2⟩) (fun hNew => ?_)
                clear hK K
                clear hHeld hb; have hHeld := hNew; clear hNew
                try simp only [Act.put, List.setIfInBounds_toArray, List.set_cons_zero, List.set_cons_succ]
                refine wpAnyH_take (i := 28) (oi := ⟨some 80, _, _, _, _, _⟩) (v := ?_) rfl (by kernel_rfl) (by kernel_rfl) (by kernel_rfl) (fun _ _ _ h => h) (Or.inl ⟨by rfl, ?_⟩) (by assumption) ?_
                rotate_left
                focus (intro w hSw; (try dsimp only at hSw); go_simp; first | done | with_reducible rfl)
                try simp only [Act.put, List.setIfInBounds_toArray, List.set_cons_zero, List.set_cons_succ]
                refine wpAnyH_take (i := 29) (oi := ⟨some 81, _, _, _, _, _⟩) (v := ?_) rfl (by kernel_rfl) (by kernel_rfl) (by kernel_rfl) (fun _ _ _ h => h) (Or.inl ⟨by rfl, ?_⟩) (by assumption) ?_
                rotate_left
                focus (intro w hSw; (try dsimp only at hSw); go_simp; first | done | with_reducible rfl)
                try simp only [Act.put, List.setIfInBounds_toArray, List.set_cons_zero, List.set_cons_succ]
                refine wpAnyH_take (i := 30) (oi := ⟨some 82, _, _, _, _, _⟩) (v := ?_) rfl (by kernel_rfl) (by kernel_rfl) (by kernel_rfl) (fun _ _ _ h => h) (Or.inl ⟨by rfl, ?_⟩) (by assumption) ?_
                rotate_left
                focus (intro w hSw; (try dsimp only at hSw); go_simp; first | done | with_reducible rfl)
                try simp only [Act.put, List.setIfInBounds_toArray, List.set_cons_zero, List.set_cons_succ]
                refine wpAnyH_take (i := 31) (oi := ⟨some 83, _, _, _, _, _⟩) (v := ?_) rfl (by kernel_rfl) (by kernel_rfl) (by kernel_rfl) (fun _ _ _ h => h) (Or.inl ⟨by rfl, ?_⟩) (by assumption) ?_
                rotate_left
                focus (intro w hSw; (try dsimp only at hSw); go_simp; first | done | with_reducible rfl)
                try simp only [Act.put, List.setIfInBounds_toArray, List.set_cons_zero, List.set_cons_succ]
                refine wpAnyH_done (by kernel_rfl) ?_ _
                have HBX := hHeld.1.out
                go_wp2
                go_roundw
                case rel => exact ⟨k + 1, by omega, by go_num, HBX⟩
                case measure => simp [intOf]; omega
      · have d1 : (x.a == v.a) = false := by simpa using hmaj
        have d2 : (x.a != v.a) = true := by simpa using hmaj
        clear hmaj
        go_wp2
        go_roundw
        case rel => exact ⟨k + 1, by omega, by go_num, HB.out.alloc hzr _⟩
        case measure => simp [intOf]; omega
    · obtain rfl : k = l.length := by omega
      have hA0 := HA.out.below hB
      have hB0 := HBB.out.below hB
      have HA2 := Lib.hid (hA0.below (below_alloc wr (.cells #[] 23)))
      have HB2 := Lib.hid (hB0.below (below_alloc wr (.cells #[] 23)))
      have HLT := Lib.hid (fun (y : Sv.V) (_ : B = some y) (b c : Nat) (h : Value.slice qb nb nb = .slice (some ⟨b, 0, none⟩) 1 c) => (show b < wr.heap.size from by
        subst B
        obtain ⟨b2, e1, _, hat⟩ := hB0.at
        cases h
        cases e1
        exact hat.lt))
      have HB := Lib.hid hB
      clear hB hA0 hB0
      have hall := near_all HBel.out HAbv.out
      have hLL : (A.toList ++ B.toList).length ≤ 2 := by cases A <;> cases B <;> simp
      have hal : A.toList.length ≤ 1 := by cases A <;> simp
      have hfl := flatV_append A.toList B.toList
      have hln : 0 + A.toList.length + B.toList.length = (A.toList ++ B.toList).length := by rw [List.length_append]; omega
      generalize A.toList ++ B.toList = L at hall hLL hfl hln
      have HALL := Lib.hid hall
      have HFL := Lib.hid hfl
      have HLN := Lib.hid hln
      have HAL := Lib.hid hal
      clear hall hfl hln hal
      go_wp2_with (first
        | (at_builtin; refine wpList_append_one _ rfl _ _ rfl wr.heap.size _ (.slice (some ⟨wr.heap.size, 0, none⟩) 0 0) (.slice qa na na) 0 [] A rfl (own_empty wr) rfl HA2.out (by omega) (by simp) ?_; intro tA wA hoA hgA)
        | (at_builtin; refine wpList_append_one _ rfl _ _ rfl wr.heap.size _ tA (.slice qb nb nb) (0 + A.toList.length) _ B rfl hoA rfl (HB2.out.grown HLT.out hgA (fun b e => by cases e; exact Nat.le_refl _)) (by have := HAL.out; omega) (by have := hgA.size; simp at this; omega) ?_; intro tB wB hoB hgB; obtain ⟨q2, c2, rfl, hrow2⟩ := VRow.own (l := L) (by rw [HFL.out, ← HLN.out]; simpa using hoB); have HR2 := Lib.hid hrow2; clear hrow2))
      have hbA : Below wr.heap.size wr wA := (below_alloc wr _).grown hgA (by simp) (fun b e => by cases e; exact Nat.le_refl _)
      have hbB : Below wr.heap.size wr wB := hbA.grown hgB hbA.size (fun b e => (hoA.lt b e).1)
      have hBB : Below w1.heap.size w1 wB := HB.out.trans (hbB.mono HB.out.size)
      have HBB1 := Lib.hid hBB
      have hzB : w1.heap.size ≤ wB.heap.size := hBB.size
      have hz1' : w.heap.size ≤ w1.heap.size := by omega
      clear hoA hoB hgA hgB hbA hbB hBB
      go_loopw [91] (fun i wq => ∃ k : Nat, k ≤ L.length ∧ i = .int .i64 k ∧ Below wB.heap.size wB wq) (fun i _ => L.length - (intOf i).toNat)
      case atStart => exact ⟨0, Nat.zero_le _, rfl, Below.refl _ _⟩
      case round =>
        obtain ⟨wq, hwq⟩ : ∃ wq, wq = wr := ⟨_, rfl⟩
        subst hwq
        obtain ⟨k, hk, rfl, hQ⟩ := hrel
        have hzq := hQ.size
        by_cases hlt : k < L.length
        · obtain ⟨b, o, hq, ha⟩ := HR2.out k L[k] (List.getElem?_eq_getElem hlt)
          subst hq
          obtain ⟨y0, y1, y2⟩ := ha.below hQ ha.lt
          have hylt : b < wq.heap.size := by have := ha.lt; omega
          obtain ⟨hym, hya, hyv⟩ := HALL.out L[k] (List.getElem_mem hlt)
          generalize hy : L[k] = y at *
          have HYM := Lib.hid hym
          have HYV := Lib.hid (parts hya hyv)
          have HYA := Lib.hid hya
          have HQ := Lib.hid hQ
          clear hy hym hya hyv ha hQ
          go_wp2
          go_loopw [12, 97] (fun met j wi => ∃ n : Nat, n ≤ l.length ∧ j = .int .i64 n ∧ met = .bool (inB (l.take n) y) ∧ Below (wq.heap.size + 1) (wq.alloc (.cells #[.int .i64 y.a, .int .i64 y.b, .int .i64 y.c] 23)) wi) (fun _ j _ => l.length - (intOf j).toNat)
          case atStart => exact ⟨0, Nat.zero_le _, rfl, by simp [inB], Below.refl _ _⟩
          case round =>
            obtain ⟨wi, hwi⟩ : ∃ wi, wi = wr := ⟨_, rfl⟩
            subst hwi
            obtain ⟨n, hn, rfl, rfl, hI⟩ := hrel
            have hzi : wq.heap.size + 1 ≤ wi.heap.size := by have := hI.size; rwa [World.size_alloc] at this
            have p0 : wi.cell? ⟨wq.heap.size, 0, none⟩ = some (.int .i64 y.a) := (hI.cell (p := ⟨wq.heap.size, 0, none⟩) (by simp)).trans (hb_at (hb_new wq _) 0 rfl)
            have p1 : wi.cell? ⟨wq.heap.size, 1, none⟩ = some (.int .i64 y.b) := (hI.cell (p := ⟨wq.heap.size, 1, none⟩) (by simp)).trans (hb_at (hb_new wq _) 1 rfl)
            have p2 : wi.cell? ⟨wq.heap.size, 2, none⟩ = some (.int .i64 y.c) := (hI.cell (p := ⟨wq.heap.size, 2, none⟩) (by simp)).trans (hb_at (hb_new wq _) 2 rfl)
            have hqi : Below wq.heap.size wq wi := (below_alloc wq _).trans (hI.mono (by simp))
            have hplt : wq.heap.size < wi.heap.size := by omega
            by_cases hln : n < l.length
            · obtain ⟨b, o, hq, ha⟩ := HR.out n l[n] (List.getElem?_eq_getElem hln)
              have hS := inB_snoc l n hln
              have hmm := congrFun hS y
              have hbw : b < w.heap.size := ha.lt
              have hch : Below w.heap.size w wi := (HB0.out.trans (HBB1.out.mono hz1')).trans ((HQ.out.mono (by omega)).trans (hqi.mono (by omega)))
              obtain ⟨z0, z1, z2⟩ := ha.below hch hbw
              have hblt : b < wi.heap.size := Nat.lt_of_lt_of_le hbw hch.size
              have HCH := Lib.hid hch
              have HQI := Lib.hid hqi
              have HI := Lib.hid hI
              clear hch hqi hI hS ha
              generalize l[n] = z at *
              have HMM := Lib.hid hmm
              clear hmm
              rcases Bool.eq_false_or_eq_true (inB (l.take n) y) with hm | hm
              · have HM := Lib.hid hm
                rw [hm]
                clear hm
                go_wp2
                go_roundw
                case rel => exact ⟨n + 1, by omega, by go_num, by rw [← HMM.out, HM.out]; simp, HI.out.alloc (by omega) _⟩
                case measure => simp [intOf]; omega
              · have HM := Lib.hid hm
                rw [hm]
                clear hm
                by_cases hyz : y = z
                · subst hyz
                  go_wp2
                  go_roundw
                  case rel => exact ⟨n + 1, by omega, by go_num, by rw [← HMM.out]; simp, HI.out.alloc (by omega) _⟩
                  case measure => simp [intOf]; omega
                · have hthree : (y.a == z.a) = false ∨ ((y.a == z.a) = true ∧ (y.b == z.b) = false) ∨ ((y.a == z.a) = true ∧ (y.b == z.b) = true ∧ (y.c == z.c) = false) := by
                    by_cases h1 : y.a = z.a
                    · rcases parts h1 hyz with h2 | ⟨h2, h3⟩
                      · exact .inr (.inl ⟨by simpa using h1, h2⟩)
                      · exact .inr (.inr ⟨by simpa using h1, h2, h3⟩)
                    · exact .inl (by simpa using h1)
                  have HYZ := Lib.hid hyz
                  clear hyz
                  rcases hthree with e1 | ⟨e1, e2⟩ | ⟨e1, e2, e3⟩
                  all_goals
                    go_wp2
                    go_roundw
                    case rel => exact ⟨n + 1, by omega, by go_num, by rw [← HMM.out, HM.out]; simp [HYZ.out], HI.out.alloc (by omega) _⟩
                    case measure => simp [intOf]; omega
            · obtain rfl : n = l.length := by omega
              have hin : inB (l.take l.length) y = true := by rw [List.take_length]; unfold inB; exact decide_eq_true HYM.out
              rw [hin]
              have v0 : wi.cell? ⟨w.heap.size, 0, none⟩ = some (.int .i64 v.a) := (hqi.cell (p := ⟨w.heap.size, 0, none⟩) (by simp; omega)).trans ((HQ.out.cell (p := ⟨w.heap.size, 0, none⟩) (by simp; omega)).trans ((HBB1.out.cell (p := ⟨w.heap.size, 0, none⟩) (by simp; omega)).trans V0.out))
              have v1 : wi.cell? ⟨w.heap.size, 1, none⟩ = some (.int .i64 v.b) := (hqi.cell (p := ⟨w.heap.size, 1, none⟩) (by simp; omega)).trans ((HQ.out.cell (p := ⟨w.heap.size, 1, none⟩) (by simp; omega)).trans ((HBB1.out.cell (p := ⟨w.heap.size, 1, none⟩) (by simp; omega)).trans V1.out))
              have v2 : wi.cell? ⟨w.heap.size, 2, none⟩ = some (.int .i64 v.c) := (hqi.cell (p := ⟨w.heap.size, 2, none⟩) (by simp; omega)).trans ((HQ.out.cell (p := ⟨w.heap.size, 2, none⟩) (by simp; omega)).trans ((HBB1.out.cell (p := ⟨w.heap.size, 2, none⟩) (by simp; omega)).trans V2.out))
              have c1 : (y.a == v.a) = true := by have := HYA.out; simpa using this
              have c2 : (y.a != v.a) = false := by have := HYA.out; simpa using this
              have HQI := Lib.hid hqi
              clear hqi hI hin
              rcases HYV.out with e1 | ⟨e1, e2⟩
              all_goals
                go_wp2
                go_roundw
                case rel => exact ⟨k + 1, by omega, by go_num, HQ.out.trans (HQI.out.mono hzq)⟩
                case measure => simp [intOf]; omega
        · obtain rfl : k = L.length := by omega
          have HQ := Lib.hid hQ
          clear hQ
          go_wp2_with (go_at_call 11; refine (alive_ok _).mono ?_; rintro e w9 ⟨rfl, hb9⟩)
          go_ret
          have hch : Below w.heap.size w wq := (HB0.out.trans (HBB1.out.mono hz1')).trans (HQ.out.mono (by omega))
          exact ⟨rfl, hch.trans (hb9.mono hch.size)⟩

end Go.Proofs.Ytmgnbpgcbehidaa
