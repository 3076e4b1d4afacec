/- The law's short case, of lengths that lie in a row: the loop over the lengths; the store goes on as Room says. -/
import Derived.Test.YtdaipgeecmngfaaRl
namespace Go.Proofs.Ytdaipgeecmngfaa
open Go.RowKit Go.Maps

theorem wr_ints {B F cap j k nt S : Nat} {sz : Nat → Nat} {w w' : World} {e : Ending} {cs : Array Value} {f : Nat × Nat} (h : Wr B F cap j k nt sz w e w') (hS : w.heap[S]? = some (Obj.cells cs 3 f)) : w'.heap[S]? = some (Obj.cells cs 3 f) := by
  rcases h with ⟨_, _, _, h⟩ | ⟨_, _, _, h⟩ <;> exact h.ints _ _ _ hS

theorem inv_store {F c Sz j q k nt nt' : Nat} {sz : Nat → Nat} {w wc : World} (hR : Room wc w.heap.size F c (upd sz j q) nt') (hn : nt' ≤ nt + 1) (hnt : nt ≤ k) (hsz : ∀ i, i < 4 → sz i ≤ 3000 * k) (hq : q ≤ 3000) (hj : j < 4)
    (hS : wc.heap[Sz]? = some (.cells (sizes sz) 3 (0, 0))) (hB : Below w.heap.size w wc) (hSz : w.heap.size ≤ Sz) : Inv F c Sz w (wc.setCell ⟨Sz, j, none⟩ (.int .i64 ((sz j : Int) + (q : Int)))) (k + 1) := by
  refine ⟨upd sz j q, nt', hR.ints hS _, by omega, fun i hi => by have := hsz i hi; unfold upd; split <;> omega, ?_, hB.setCell hSz _, hSz⟩
  have h := hb_set_same hS j (.int .i64 ((sz j : Int) + (q : Int)))
  rw [h, ← sizes_upd sz j q hj]
  push_cast
  rfl
theorem inv_same {F c Sz k nt : Nat} {sz : Nat → Nat} {w wc : World} (hR : Room wc w.heap.size F c sz nt) (hnt : nt ≤ k) (hsz : ∀ i, i < 4 → sz i ≤ 3000 * k)
    (hS : wc.heap[Sz]? = some (.cells (sizes sz) 3 (0, 0))) (hB : Below w.heap.size w wc) (hSz : w.heap.size ≤ Sz) : Inv F c Sz w wc (k + 1) :=
  ⟨sz, nt, hR, by omega, fun i hi => by have := hsz i hi; omega, hS, hB, hSz⟩

set_option maxRecDepth 100000 in
set_option maxHeartbeats 4000000 in
theorem room_short (a : Int) (b off len cap : Nat) (zs : List Int) (w : World) (ha : (Lit.int .i64 a).wf = true) (hl : len ≤ 30) (hlc : len ≤ cap) (hcell : ∀ i, i < len → w.cell? ⟨b, off + i, none⟩ = some (.int .i64 (zs.getD i 0)))
    (hwz : ∀ i, i < len → (Lit.int .i64 (zs.getD i 0)).wf = true) (hbl : 0 < len → b < w.heap.size) :
    Calls Try.prog 7 #[.int .i64 a, .slice (some ⟨b, off, none⟩) len cap] w fun e w' => e = .returned (.bool true) ∧ Below w.heap.size w w' := by
  obtain ⟨h1, h2⟩ := tm_bounds a 40 (by decide)
  obtain ⟨h3, h4⟩ := tm_again a 40 (by decide)
  obtain ⟨r, hr⟩ : ∃ r : Nat, (a.tmod 40 + 40).tmod 40 = (r : Int) := ⟨_, (Int.toNat_of_nonneg h3).symm⟩
  rw [hr] at h3 h4
  have hr2 : r < 40 := by omega
  have hl3 : (len : Int) ≤ 30 := by omega
  have HC := Lib.hid hcell
  have HW := Lib.hid hwz
  have HBL := Lib.hid hbl
  clear hcell hwz hbl
  go_enter Try.func7, Try.ntmps7
  go_upto_region 2 with fail
  clear h1 h2 h3 h4 hr
  go_upto_region 3 with (first
    | ((go_at_call 9; with_reducible refine (new_cap r _ hr2).mono ?_); rintro e w1 ⟨rfl, h1⟩; have H1 := Lib.hid h1; clear h1)
    | go_in)
  go_upto_region 5 with (first
    | ((go_at_call 11; with_reducible refine (no_any _ _).mono ?_); rintro e w' ⟨rfl, rfl⟩)
    | ((go_at_call 12; with_reducible refine (alive_ok _).mono ?_); rintro e w2 ⟨rfl, hb⟩; have HB := Lib.hid hb; clear hb)
    | go_in)
  have hm4 := make_four
  go_wp2
  have hbel : Below w.heap.size w (w2.alloc (.cells #[.int .i64 0, .int .i64 0, .int .i64 0, .int .i64 0] 3)) := (H1.out.below.trans (HB.out.mono H1.out.below.size)).trans ((below1 w2 _).mono (by have := H1.out.below.size; have := HB.out.size; omega))
  have hinv : Inv (w.heap.size + 2) (r + 1) w2.heap.size w (w2.alloc (.cells #[.int .i64 0, .int .i64 0, .int .i64 0, .int .i64 0] 3)) 0 := by
    refine ⟨fun _ => 0, 0, (room_start H1.out).kept (fun j x hx => hb_alloc (hb_below hx HB.out (hb_lt hx)) _), Nat.le_refl _, fun _ _ => Nat.zero_le _, heap_alloc_new w2 _, hbel, ?_⟩
    have := H1.out.below.size
    have := HB.out.size
    omega
  have HI := Lib.hid hinv
  clear hinv hbel hm4
  obtain ⟨Sz, hSz⟩ : ∃ Sz, Sz = w2.heap.size := ⟨_, rfl⟩
  rw [← hSz] at HI ⊢
  clear H1 HB
  go_loopw [37] (fun i wr => ∃ k : Nat, k ≤ len ∧ i = .int .i64 k ∧ Inv (w.heap.size + 2) (r + 1) Sz w wr k) (fun i _ => len - (intOf i).toNat)
  case atStart => exact ⟨0, Nat.zero_le _, rfl, HI.out⟩
  case round =>
    clear hSz HI
    obtain ⟨k, hk, rfl, sz, nt, hR, hnt, hsz, hS, hBel, hSz⟩ := hrel
    by_cases hlt : k < len
    · have hz : wr.cell? ⟨b, off + k, none⟩ = some (.int .i64 (zs.getD k 0)) := by rw [hBel.cell (p := ⟨b, off + k, none⟩) (HBL.out (by omega))]; exact HC.out k hlt
      obtain ⟨z, hzz⟩ : ∃ z, z = zs.getD k 0 := ⟨_, rfl⟩
      rw [← hzz] at hz
      clear hzz
      obtain ⟨g1, g2⟩ := tm_bounds z 3001 (by decide)
      obtain ⟨g3, g4⟩ := tm_again z 3001 (by decide)
      obtain ⟨q, hq⟩ : ∃ q : Nat, (z.tmod 3001 + 3001).tmod 3001 = (q : Int) := ⟨_, (Int.toNat_of_nonneg g3).symm⟩
      rw [hq] at g3 g4
      have hq2 : q ≤ 3000 := by omega
      have hk30 : k < 30 := by omega
      obtain ⟨j, hj⟩ : ∃ j, j = k % 4 := ⟨_, rfl⟩
      have hj4 : j < 4 := by omega
      have hkj : (k : Int) % 4 = (j : Int) := by omega
      clear hj
      have HR := Lib.hid hR
      have HS := Lib.hid hS
      have HBel := Lib.hid hBel
      have Hsz := Lib.hid hsz
      clear hR hS hBel hsz
      go_wp2
      clear g1 g2 g3 g4 hq hz
      go_loop [10, 48] (fun u t => ∃ m : Nat, m ≤ 4 ∧ t = .int .i64 m ∧ u = .int .i64 (part (upd sz j q) m : Nat)) (fun _ t => 4 - (intOf t).toNat)
      case atStart => exact ⟨0, Nat.zero_le _, rfl, rfl⟩
      case round =>
        obtain ⟨m, hm, rfl, rfl⟩ := hrel
        have b0 := Hsz.out
        by_cases hm4 : m < 4
        · have st : wr.cell? ⟨Sz, m, none⟩ = some (.int .i64 (sz m : Nat)) := hb_at HS.out m (sizes_at sz m hm4)
          have c0 := b0 m hm4
          have c1 := part_le (upd sz j q) (93000) (fun i hi => by have := b0 i hi; unfold upd; split <;> omega) m hm
          have c2 : secs 93000 = 182 := rfl
          rw [c2] at c1
          clear b0 c2
          have HM := Lib.hid hm
          have e0 : part (upd sz j q) (m + 1) = part (upd sz j q) m + (upd sz j q m + 511) / 512 := rfl
          have E0 := Lib.hid e0
          clear e0
          by_cases hmj : m = j
          · obtain rfl := hmj
            go_wp2
            have e1 := E0.out
            rw [upd_same] at e1
            exact ⟨⟨m + 1, by omega, by go_num, by rw [e1]; go_num⟩, by simp [intOf]; omega⟩
          · have n1 : ((m : Int) == (j : Int)) = false := by simp; omega
            have HMJ := Lib.hid hmj
            clear hmj
            go_wp2
            have e1 := E0.out
            rw [upd_other sz q HMJ.out] at e1
            exact ⟨⟨m + 1, by omega, by go_num, by rw [e1]; go_num⟩, by simp [intOf]; omega⟩
        · obtain rfl : m = 4 := by omega
          go_upto_region 20 with fail
          clear hm
          have c0 : wr.cell? ⟨Sz, j, none⟩ = some (.int .i64 (sz j : Nat)) := hb_at HS.out j (sizes_at sz j hj4)
          have c1 : ∀ o, (wr.alloc o).cell? ⟨Sz, j, none⟩ = some (.int .i64 (sz j : Nat)) := fun o => hb_at (hb_alloc HS.out o) j (sizes_at sz j hj4)
          have c2 : ∀ o p, ((wr.alloc o).alloc p).cell? ⟨Sz, j, none⟩ = some (.int .i64 (sz j : Nat)) := fun o p => hb_at (hb_alloc (hb_alloc HS.out o) p) j (sizes_at sz j hj4)
          have C0 := Lib.hid c0
          have C1 := Lib.hid c1
          have C2 := Lib.hid c2
          clear c0 c1 c2
          have hb0 := b0 j hj4
          have wA := round_a w.heap.size (w.heap.size + 2) (r + 1) j q nt (.int .u8 (48 + (j : Int))) (⟨#[102]⟩ ++ ByteArray.empty.push (UInt8.ofNat (48 + (j : Int)).toNat)) sz wr HR.out (name_of j hj4) hj4 HBel.out.size (by omega) (by omega) (by omega) (by omega) hq2
          have wB := round_b w.heap.size (w.heap.size + 2) (r + 1) j q nt (.int .u8 (48 + (j : Int))) (⟨#[102]⟩ ++ ByteArray.empty.push (UInt8.ofNat (48 + (j : Int)).toNat)) sz wr HR.out (name_of j hj4) hj4 HBel.out.size (by omega) (by omega) (by omega) (by omega) hq2
          have WA := Lib.hid wA
          have WB := Lib.hid wB
          have hmk := fun W => make_bytes q W hq2
          have k1 : (convert 45 9 (.slice (some ⟨wr.heap.size, 0, none⟩) 1 1)).run Try.prog (wr.alloc (.cells #[.int .u8 (48 + (j : Int))] 5)).drew = .ok (.string (ByteArray.empty.push (UInt8.ofNat (48 + (j : Int)).toNat))) (wr.alloc (.cells #[.int .u8 (48 + (j : Int))] 5)).drew := text_one _ _ _ _ (hb_at (w := (wr.alloc (.cells #[.int .u8 (48 + (j : Int))] 5)).drew) (heap_alloc_new wr _) 0 rfl)
          have k2 : ∀ o, (convert 45 9 (.slice (some ⟨wr.heap.size, 0, none⟩) 1 1)).run Try.prog ((wr.alloc (.cells #[.int .u8 (48 + (j : Int))] 5)).alloc o).drew = .ok (.string (ByteArray.empty.push (UInt8.ofNat (48 + (j : Int)).toNat))) ((wr.alloc (.cells #[.int .u8 (48 + (j : Int))] 5)).alloc o).drew := fun o => text_one _ _ _ _ (hb_at (w := ((wr.alloc (.cells #[.int .u8 (48 + (j : Int))] 5)).alloc o).drew) (hb_alloc (heap_alloc_new wr _) o) 0 rfl)
          have k3 : ∀ o, (convert 45 9 (.slice (some ⟨wr.heap.size + 1, 0, none⟩) 1 1)).run Try.prog ((wr.alloc o).alloc (.cells #[.int .u8 (48 + (j : Int))] 5)).drew = .ok (.string (ByteArray.empty.push (UInt8.ofNat (48 + (j : Int)).toNat))) ((wr.alloc o).alloc (.cells #[.int .u8 (48 + (j : Int))] 5)).drew := fun o => text_one _ _ _ _ (hb_at (w := ((wr.alloc o).alloc (.cells #[.int .u8 (48 + (j : Int))] 5)).drew) (new2 wr _ _) 0 rfl)
          have z1 : (k : Int).tmod 4 = (j : Int) := by rw [Int.tmod_eq_emod_of_nonneg (by omega)]; exact hkj
          have z2 : IntKind.i64.wrap (48 + (j : Int)) = 48 + (j : Int) := IntWalk.i64_in _ (by omega)
          have z3 : IntKind.u8.wrap (48 + (j : Int)) = 48 + (j : Int) := by
            have h : j = 0 ∨ j = 1 ∨ j = 2 ∨ j = 3 := by omega
            rcases h with rfl | rfl | rfl | rfl <;> decide
          have z4 : (0 : Int) ≤ (j : Int) := by omega
          have z5 : (j : Int) < 4 := by omega
          clear wA wB b0 hb0
          go_cut [13] (fun v wx => CutR (w.heap.size + 2) (r + 1) j q nt sz w wr v wx)
          case first =>
            refine wp_region_held_drew (S := (fun w' => w'.cell? ⟨Sz, j, none⟩ = some (.int .i64 (sz j : Nat)))) (by kernel_rfl) C0.out (fun hHeld => ?_)
            refine wpAnyH_take (i := 0) (oi := ⟨some 66, _, _, _, _, _⟩) (v := ?_) rfl (by kernel_rfl) (by kernel_rfl) (by kernel_rfl) (fun _ _ _ h => h) (Or.inl ⟨by rfl, ?_⟩) (by assumption) ?_
            rotate_left
            focus (intro w hSw; (try dsimp only at hSw); go_simp; first | done | with_reducible rfl)
            try simp only [Act.put, List.setIfInBounds_toArray, List.set_cons_zero, List.set_cons_succ]
            refine wpAnyH_take (i := 1) (oi := ⟨some 67, _, _, _, _, _⟩) (v := ?_) rfl (by kernel_rfl) (by kernel_rfl) (by kernel_rfl) (fun _ _ _ h => h) (Or.inl ⟨by rfl, ?_⟩) (by assumption) ?_
            rotate_left
            focus (intro w hSw; (try dsimp only at hSw); go_simp; first | done | with_reducible rfl)
            try simp only [Act.put, List.setIfInBounds_toArray, List.set_cons_zero, List.set_cons_succ]
            refine wpAnyH_take (i := 2) (oi := ⟨some 68, _, _, _, _, _⟩) (v := ?_) rfl (by kernel_rfl) (by kernel_rfl) (by kernel_rfl) (fun _ _ _ h => h) (Or.inl ⟨by rfl, ?_⟩) (by assumption) ?_
            rotate_left
            focus (intro w hSw; (try dsimp only at hSw); go_simp; first | done | with_reducible rfl)
            try simp only [Act.put, List.setIfInBounds_toArray, List.set_cons_zero, List.set_cons_succ]
            refine wpAnyH_take (i := 3) (oi := ⟨some 69, _, _, _, _, _⟩) (v := ?_) rfl (by kernel_rfl) (by kernel_rfl) (by kernel_rfl) (fun _ _ _ h => h) (Or.inl ⟨by rfl, ?_⟩) (by assumption) ?_
            rotate_left
            focus (intro w hSw; (try dsimp only at hSw); go_simp; first | done | with_reducible rfl)
            try simp only [Act.put, List.setIfInBounds_toArray, List.set_cons_zero, List.set_cons_succ]
            refine wpAnyH_take (i := 4) (oi := ⟨some 70, _, _, _, _, _⟩) (v := ?_) rfl (by kernel_rfl) (by kernel_rfl) (by kernel_rfl) (fun _ _ _ h => h) (Or.inl ⟨by rfl, ?_⟩) (by assumption) ?_
            rotate_left
            focus (intro w hSw; (try dsimp only at hSw); go_simp; first | done | with_reducible rfl)
            try simp only [Act.put, List.setIfInBounds_toArray, List.set_cons_zero, List.set_cons_succ]
            refine wpAnyH_take (i := 8) (oi := ⟨some 74, _, _, _, _, _⟩) (v := ?_) rfl (by kernel_rfl) (by kernel_rfl) (by kernel_rfl) (fun _ _ _ h => h) (Or.inl ⟨by rfl, ?_⟩) (by assumption) ?_
            rotate_left
            focus (intro w hSw; (try dsimp only at hSw); go_simp; first | done | with_reducible rfl)
            try simp only [Act.put, List.setIfInBounds_toArray, List.set_cons_zero, List.set_cons_succ]
            refine wpAnyH_take (i := 9) (oi := ⟨some 75, _, _, _, _, _⟩) (v := ?_) rfl (by kernel_rfl) (by kernel_rfl) (by kernel_rfl) (fun _ _ _ h => h) (Or.inl ⟨by rfl, ?_⟩) (by assumption) ?_
            rotate_left
            focus (intro w hSw; (try dsimp only at hSw); go_simp; first | done | with_reducible rfl)
            try simp only [Act.put, List.setIfInBounds_toArray, List.set_cons_zero, List.set_cons_succ]
            refine wpAnyH_take (i := 10) (oi := ⟨some 76, _, _, _, _, _⟩) (v := ?_) rfl (by kernel_rfl) (by kernel_rfl) (by kernel_rfl) (fun _ _ _ h => h) (Or.inl ⟨by rfl, ?_⟩) (by assumption) ?_
            rotate_left
            focus (intro w hSw; (try dsimp only at hSw); go_simp; first | done | with_reducible rfl)
            try simp only [Act.put, List.setIfInBounds_toArray, List.set_cons_zero, List.set_cons_succ]
            refine wpAnyH_take (i := 11) (oi := ⟨some 77, _, _, _, _, _⟩) (v := ?_) rfl (by kernel_rfl) (by kernel_rfl) (by kernel_rfl) (fun _ _ _ h => h) (Or.inl ⟨by rfl, ?_⟩) (by assumption) ?_
            rotate_left
            focus (intro w hSw; (try dsimp only at hSw); go_simp; first | done | with_reducible rfl)
            try simp only [Act.put, List.setIfInBounds_toArray, List.set_cons_zero, List.set_cons_succ]
            refine wpAnyH_take (i := 12) (oi := ⟨some 78, _, _, _, _, _⟩) (v := ?_) rfl (by kernel_rfl) (by kernel_rfl) (by kernel_rfl) (fun _ _ _ h => h) (Or.inl ⟨by rfl, ?_⟩) (by assumption) ?_
            rotate_left
            focus (intro w hSw; (try dsimp only at hSw); go_simp; first | done | with_reducible rfl)
            try simp only [Act.put, List.setIfInBounds_toArray, List.set_cons_zero, List.set_cons_succ]
            refine wpAnyH_take (i := 13) (oi := ⟨some 79, _, _, _, _, _⟩) (v := ?_) rfl (by kernel_rfl) (by kernel_rfl) (by kernel_rfl) (fun _ _ _ h => h) (Or.inl ⟨by rfl, ?_⟩) (by assumption) ?_
            rotate_left
            focus (intro w hSw; (try dsimp only at hSw); go_simp; first | done | with_reducible rfl)
            try simp only [Act.put, List.setIfInBounds_toArray, List.set_cons_zero, List.set_cons_succ]
            refine wpAnyH_ready (rs := [5, 14]) (by kernel_rfl) (by simp) ?_
            refine AllReadyH.cons (o := ⟨some 71, _, _, _, _, _⟩) rfl (fun K hK => ?_) ?_
            focus
              go_simp
              refine hK.out _ _ (by first | exact C1.out _ | exact C2.out _ _) (fun hHeld => ?_)
              clear hK K
              try simp only [Act.put, List.setIfInBounds_toArray, List.set_cons_zero, List.set_cons_succ]
              refine wpAnyH_ready (rs := [6, 14]) (by kernel_rfl) (by simp) ?_
              refine AllReadyH.cons (o := ⟨some 72, _, _, _, _, _⟩) rfl (fun K hK => ?_) ?_
              focus
                go_simp
                refine hK.out _ _ (by assumption) (fun hHeld => ?_)
                clear hK K
                try simp only [Act.put, List.setIfInBounds_toArray, List.set_cons_zero, List.set_cons_succ]
                refine wpAnyH_take (i := 7) (oi := ⟨some 73, _, _, _, _, _⟩) (v := ?_) rfl (by kernel_rfl) (by kernel_rfl) (by kernel_rfl) (fun _ _ _ h => h) (Or.inl ⟨by rfl, ?_⟩) (by assumption) ?_
                rotate_left
                focus (intro w hSw; (try dsimp only at hSw); go_simp; first | done | with_reducible rfl)
                try simp only [Act.put, List.setIfInBounds_toArray, List.set_cons_zero, List.set_cons_succ]
                refine wpAnyH_ready (rs := [14]) (by kernel_rfl) (by simp) ?_
                refine AllReadyH.cons (o := ⟨some 80, _, _, _, _, _⟩) rfl (fun K hK => ?_) AllReadyH.nil
                go_simp
                refine hK.out _ _ (by first | exact C1.out _ | exact C2.out _ _) (fun hHeld => ?_)
                clear hK K
                try simp only [Act.put, List.setIfInBounds_toArray, List.set_cons_zero, List.set_cons_succ]
                refine wpAnyH_ready (rs := [15]) (by kernel_rfl) (by simp) ?_
                refine AllReadyH.cons (o := ⟨some 81, _, _, _, _, _⟩) rfl (fun K hK => ?_) AllReadyH.nil
                go_simp
                (with_reducible refine (WA.out).mono ?_); rintro e wx ⟨v, rfl, hw⟩
                go_wp2_with fail
                refine hK.out _ _ (by exact hb_at (wr_ints hw (hb_alloc (hb_alloc HS.out _) _)) j (sizes_at sz j hj4)) (fun hHeld => ?_)
                clear hK K
                try simp only [Act.put, List.setIfInBounds_toArray, List.set_cons_zero, List.set_cons_succ]
                refine wpAnyH_ready (rs := [16]) (by kernel_rfl) (by simp) ?_
                refine AllReadyH.cons (o := ⟨some 82, _, _, _, _, _⟩) rfl (fun K hK => ?_) AllReadyH.nil
                go_simp
                (with_reducible refine (no_any _ _).mono ?_); rintro e w' ⟨rfl, rfl⟩
                go_wp2_with fail
                refine hK.out _ _ (by assumption) (fun hHeld => ?_)
                clear hK K
                try simp only [Act.put, List.setIfInBounds_toArray, List.set_cons_zero, List.set_cons_succ]
                refine wpAnyH_take (i := 17) (oi := ⟨some 13, _, _, _, _, _⟩) (v := ?_) rfl (by kernel_rfl) (by kernel_rfl) (by kernel_rfl) (fun _ _ _ h => h) (Or.inl ⟨by rfl, ?_⟩) (by assumption) ?_
                rotate_left
                focus (intro w hSw; (try dsimp only at hSw); go_simp; first | done | with_reducible rfl)
                try simp only [Act.put, List.setIfInBounds_toArray, List.set_cons_zero, List.set_cons_succ]
                refine wpAnyH_done (by kernel_rfl) ?_ _
                go_wp2_with fail
                go_meet
                exact ⟨v, _, rfl, (below2 wr _ _).drew, hw⟩
              refine AllReadyH.cons (o := ⟨some 80, _, _, _, _, _⟩) rfl (fun K hK => ?_) AllReadyH.nil
              go_simp
              refine hK.out _ _ (by first | exact C1.out _ | exact C2.out _ _) (fun hHeld => ?_)
              clear hK K
              try simp only [Act.put, List.setIfInBounds_toArray, List.set_cons_zero, List.set_cons_succ]
              refine wpAnyH_ready (rs := [6]) (by kernel_rfl) (by simp) ?_
              refine AllReadyH.cons (o := ⟨some 72, _, _, _, _, _⟩) rfl (fun K hK => ?_) AllReadyH.nil
              go_simp
              refine hK.out _ _ (by assumption) (fun hHeld => ?_)
              clear hK K
              try simp only [Act.put, List.setIfInBounds_toArray, List.set_cons_zero, List.set_cons_succ]
              refine wpAnyH_take (i := 7) (oi := ⟨some 73, _, _, _, _, _⟩) (v := ?_) rfl (by kernel_rfl) (by kernel_rfl) (by kernel_rfl) (fun _ _ _ h => h) (Or.inl ⟨by rfl, ?_⟩) (by assumption) ?_
              rotate_left
              focus (intro w hSw; (try dsimp only at hSw); go_simp; first | done | with_reducible rfl)
              try simp only [Act.put, List.setIfInBounds_toArray, List.set_cons_zero, List.set_cons_succ]
              refine wpAnyH_ready (rs := [15]) (by kernel_rfl) (by simp) ?_
              refine AllReadyH.cons (o := ⟨some 81, _, _, _, _, _⟩) rfl (fun K hK => ?_) AllReadyH.nil
              go_simp
              (with_reducible refine (WA.out).mono ?_); rintro e wx ⟨v, rfl, hw⟩
              go_wp2_with fail
              refine hK.out _ _ (by exact hb_at (wr_ints hw (hb_alloc (hb_alloc HS.out _) _)) j (sizes_at sz j hj4)) (fun hHeld => ?_)
              clear hK K
              try simp only [Act.put, List.setIfInBounds_toArray, List.set_cons_zero, List.set_cons_succ]
              refine wpAnyH_ready (rs := [16]) (by kernel_rfl) (by simp) ?_
              refine AllReadyH.cons (o := ⟨some 82, _, _, _, _, _⟩) rfl (fun K hK => ?_) AllReadyH.nil
              go_simp
              (with_reducible refine (no_any _ _).mono ?_); rintro e w' ⟨rfl, rfl⟩
              go_wp2_with fail
              refine hK.out _ _ (by assumption) (fun hHeld => ?_)
              clear hK K
              try simp only [Act.put, List.setIfInBounds_toArray, List.set_cons_zero, List.set_cons_succ]
              refine wpAnyH_take (i := 17) (oi := ⟨some 13, _, _, _, _, _⟩) (v := ?_) rfl (by kernel_rfl) (by kernel_rfl) (by kernel_rfl) (fun _ _ _ h => h) (Or.inl ⟨by rfl, ?_⟩) (by assumption) ?_
              rotate_left
              focus (intro w hSw; (try dsimp only at hSw); go_simp; first | done | with_reducible rfl)
              try simp only [Act.put, List.setIfInBounds_toArray, List.set_cons_zero, List.set_cons_succ]
              refine wpAnyH_done (by kernel_rfl) ?_ _
              go_wp2_with fail
              go_meet
              exact ⟨v, _, rfl, (below2 wr _ _).drew, hw⟩
            refine AllReadyH.cons (o := ⟨some 80, _, _, _, _, _⟩) rfl (fun K hK => ?_) AllReadyH.nil
            go_simp
            refine hK.out _ _ (by first | exact C1.out _ | exact C2.out _ _) (fun hHeld => ?_)
            clear hK K
            try simp only [Act.put, List.setIfInBounds_toArray, List.set_cons_zero, List.set_cons_succ]
            refine wpAnyH_ready (rs := [5]) (by kernel_rfl) (by simp) ?_
            refine AllReadyH.cons (o := ⟨some 71, _, _, _, _, _⟩) rfl (fun K hK => ?_) AllReadyH.nil
            go_simp
            refine hK.out _ _ (by first | exact C1.out _ | exact C2.out _ _) (fun hHeld => ?_)
            clear hK K
            try simp only [Act.put, List.setIfInBounds_toArray, List.set_cons_zero, List.set_cons_succ]
            refine wpAnyH_ready (rs := [6]) (by kernel_rfl) (by simp) ?_
            refine AllReadyH.cons (o := ⟨some 72, _, _, _, _, _⟩) rfl (fun K hK => ?_) AllReadyH.nil
            go_simp
            refine hK.out _ _ (by assumption) (fun hHeld => ?_)
            clear hK K
            try simp only [Act.put, List.setIfInBounds_toArray, List.set_cons_zero, List.set_cons_succ]
            refine wpAnyH_take (i := 7) (oi := ⟨some 73, _, _, _, _, _⟩) (v := ?_) rfl (by kernel_rfl) (by kernel_rfl) (by kernel_rfl) (fun _ _ _ h => h) (Or.inl ⟨by rfl, ?_⟩) (by assumption) ?_
            rotate_left
            focus (intro w hSw; (try dsimp only at hSw); go_simp; first | done | with_reducible rfl)
            try simp only [Act.put, List.setIfInBounds_toArray, List.set_cons_zero, List.set_cons_succ]
            refine wpAnyH_ready (rs := [15]) (by kernel_rfl) (by simp) ?_
            refine AllReadyH.cons (o := ⟨some 81, _, _, _, _, _⟩) rfl (fun K hK => ?_) AllReadyH.nil
            go_simp
            (with_reducible refine (WB.out).mono ?_); rintro e wx ⟨v, rfl, hw⟩
            go_wp2_with fail
            refine hK.out _ _ (by exact hb_at (wr_ints hw (hb_alloc (hb_alloc HS.out _) _)) j (sizes_at sz j hj4)) (fun hHeld => ?_)
            clear hK K
            try simp only [Act.put, List.setIfInBounds_toArray, List.set_cons_zero, List.set_cons_succ]
            refine wpAnyH_ready (rs := [16]) (by kernel_rfl) (by simp) ?_
            refine AllReadyH.cons (o := ⟨some 82, _, _, _, _, _⟩) rfl (fun K hK => ?_) AllReadyH.nil
            go_simp
            (with_reducible refine (no_any _ _).mono ?_); rintro e w' ⟨rfl, rfl⟩
            go_wp2_with fail
            refine hK.out _ _ (by assumption) (fun hHeld => ?_)
            clear hK K
            try simp only [Act.put, List.setIfInBounds_toArray, List.set_cons_zero, List.set_cons_succ]
            refine wpAnyH_take (i := 17) (oi := ⟨some 13, _, _, _, _, _⟩) (v := ?_) rfl (by kernel_rfl) (by kernel_rfl) (by kernel_rfl) (fun _ _ _ h => h) (Or.inl ⟨by rfl, ?_⟩) (by assumption) ?_
            rotate_left
            focus (intro w hSw; (try dsimp only at hSw); go_simp; first | done | with_reducible rfl)
            try simp only [Act.put, List.setIfInBounds_toArray, List.set_cons_zero, List.set_cons_succ]
            refine wpAnyH_done (by kernel_rfl) ?_ _
            go_wp2_with fail
            go_meet
            exact ⟨v, _, rfl, (below2 wr _ _).drew, hw⟩
          case rest =>
            obtain ⟨v, ws, rfl, hb1, hw⟩ := hcut
            clear k1 k2 k3 hmk WA WB
            have hS1 : ws.heap[Sz]? = some (.cells (sizes sz) 3 (0, 0)) := hb_below HS.out hb1 (hb_lt HS.out)
            have hS2 := wr_ints hw hS1
            have hBel2 : Below w.heap.size w wc := (HBel.out.trans (hb1.mono HBel.out.size)).trans (by rcases hw with ⟨_, _, _, h⟩ | ⟨_, _, _, h⟩ <;> exact h.toBelow)
            have hsz4 : part (upd sz j q) 4 = secs (sz 0) + secs (sz 1) + secs (sz 2) + secs (sz 3) - secs (sz j) + secs (sz j + q) := by rw [part_four, sum_upd sz j q hj4]
            have HS2 := Lib.hid hS2
            have HBel2 := Lib.hid hBel2
            clear hS1 hS2 hBel2 hb1
            rcases hw with ⟨hfit, he, ⟨nt', hnt', hR'⟩, _⟩ | ⟨hno, he, hR', _⟩
            · obtain rfl : v = 0 := by simpa using he
              have hu := used_room hR' (by omega)
              rw [← part_four] at hu
              have hle : part (upd sz j q) 4 ≤ r + 1 := by omega
              obtain ⟨T, hT⟩ : ∃ T, T = part (upd sz j q) 4 := ⟨_, rfl⟩
              rw [← hT] at hu hle ⊢
              have hle1 : (T : Int) ≤ 1 + (r : Int) := by omega
              have HU := Lib.hid hu
              have HR2 := Lib.hid hR'
              have c0 : wc.cell? ⟨Sz, j, none⟩ = some (.int .i64 (sz j : Nat)) := hb_at HS2.out j (sizes_at sz j hj4)
              have f0 := hb_free HS2.out j
              have b0 := Hsz.out j hj4
              clear hu hR' hT hsz4 hfit he hle
              go_wp2_with ((go_at_call 24; with_reducible refine (HU.out).mono ?_); rintro e w' ⟨rfl, rfl⟩)
              exact ⟨⟨k + 1, by omega, by go_num, inv_store HR2.out hnt' hnt Hsz.out hq2 hj4 HS2.out HBel2.out hSz⟩, by simp [intOf]; omega⟩
            · obtain rfl : v = 5 := by simpa using he
              have hu := used_room hR' (by omega)
              have hle := hR'.fits
              have hgt1 : (1 : Int) + (r : Int) < (part (upd sz j q) 4 : Nat) := by omega
              obtain ⟨T, hT⟩ : ∃ T, T = part (upd sz j q) 4 := ⟨_, rfl⟩
              rw [← hT] at hgt1 ⊢
              obtain ⟨V, hV⟩ : ∃ V, V = secs (sz 0) + secs (sz 1) + secs (sz 2) + secs (sz 3) := ⟨_, rfl⟩
              rw [← hV] at hu hle
              have hle1 : (V : Int) ≤ 1 + (r : Int) := by omega
              have HU := Lib.hid hu
              have HR2 := Lib.hid hR'
              clear hu hR' hT hsz4 hno he hle hV
              go_wp2_with ((go_at_call 24; with_reducible refine (HU.out).mono ?_); rintro e w' ⟨rfl, rfl⟩)
              exact ⟨⟨k + 1, by omega, by go_num, inv_same HR2.out hnt Hsz.out HS2.out HBel2.out hSz⟩, by simp [intOf]; omega⟩
    · go_wp2
      go_ret
      exact ⟨rfl, hBel⟩
end Go.Proofs.Ytdaipgeecmngfaa
