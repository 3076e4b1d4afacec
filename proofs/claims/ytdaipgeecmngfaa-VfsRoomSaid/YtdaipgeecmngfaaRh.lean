/- Write at a file's end in a store of at most four files: one contract for all cases. -/
import Derived.Test.YtdaipgeecmngfaaRg
namespace Go.Proofs.Ytdaipgeecmngfaa
open Go.RowKit Go.Maps

set_option maxRecDepth 100000 in
set_option maxHeartbeats 1000000 in
theorem put_any (X B cb S c m k : Nat) (lv : Value) (xs news : List Value) (w : World) (hX : w.heap[X]? = some (.cells #[.slice (some ⟨B, 0, none⟩) m cb, lv] 85 (0, 0))) (hB : w.ownsRow 0 5 1 (.slice (some ⟨B, 0, none⟩) m cb) m xs) (hm : m ≤ 1000000) (hmc : m ≤ cb)
    (hk : 0 < k) (hkc : k ≤ c) (hkm : k ≤ 1000000) (hnl : news.length = k) (hnews : ∀ j u, news[j]? = some u → w.cell? ((⟨S, 0, none⟩ : Addr).add j) = some u) (hone : ∀ u ∈ news, u.oneCell' = true) :
    Calls Try.prog 59 #[.pointer (some ⟨X, 0, none⟩), .int .i64 m, .slice (some ⟨S, 0, none⟩) k c] w fun e w' => e = .returned (.tuple #[]) ∧ PutEnd X (.slice (some ⟨B, 0, none⟩) m cb) lv m k xs news w w' := by
  have c0 : w.cell? ⟨X, 0, none⟩ = some (.slice (some ⟨B, 0, none⟩) m cb) := hb_at hX 0 rfl
  have f0 := hb_free hX 0
  have hneB : some X ≠ (Value.slice (some ⟨B, 0, none⟩) m cb).ownBlock := own_ne hB hX (by simp)
  obtain ⟨i0, hi, hz0, hz1, hz2⟩ := info_parts info5
  have HN := Lib.hid hnews
  have HO := Lib.hid hone
  have HL := Lib.hid hnl
  have HX := Lib.hid hX
  have HB := Lib.hid hB
  have HE := Lib.hid hneB
  clear hnews hone hnl hX hB hneB
  go_enter Try.func59, Try.ntmps59
  go_wp2_with (refine wpList_copy_nothing (o := ⟨some 14, _, _, _, _, _⟩) rfl (.tmp 12) (.tmp 13) 45 45 rfl 5 Try.underlying45 size5 _ (some ⟨S, 0, none⟩) 0 _ k c rfl rfl (Nat.min_zero _) ?_)
  all_goals (go_region_law (refine step_append_lies _ rfl (.tmp 19) (.tmp 22) 45 rfl 0 5 i0 _ 1 1 Try.underlying45 hi hz0 hz1 hz2 rfl (by decide) _ m xs (by simp [Act.eval, Act.put] <;> omega) (own_drewN HB.out 1) ⟨S, 0, none⟩ k c news (by simp [Act.eval, Act.put]) (by rw [HL.out]; omega) HN.out HO.out hk (by unfold maxLen; omega) (by omega) (Nat.zero_le _) _ rfl ?_; intro g cap' w2 hown2 hg2 hat2 hlt2; have hX2 := hb_grown (w := w.drew) HX.out hg2 HE.out; have c02 : w2.cell? ⟨X, 0, none⟩ = some (.slice (some ⟨B, 0, none⟩) m cb) := hb_at hX2 0 rfl; have f02 := hb_free hX2 0))
  all_goals
    go_wp2_with fail
    go_end0
    have e1 := hg2.size
    have e2 := (grown_set w2 ⟨X, 0, none⟩ (.slice (some ⟨g, 0, none⟩) (m + k) cap')).size
    exact ⟨rfl, ⟨_, hb_set_same hX2 0 _, hown2.kept (grown_set _ _ _) (.inr fun e => own_ne hown2 hX2 (by simp) e.symm), hat2.elim (fun h => .inl h.symm) (fun h => .inr ⟨g, rfl, Nat.le_of_eq h.symm⟩)⟩,
      Nat.le_trans e1 e2, ⟨hg2.os, hg2.tape, hg2.output⟩, fun j x hj hjb h => hb_set_other (hb_grown (w := w.drew) h hg2 hjb) _ hj⟩

def Wr (B F cap j k nt : Nat) (sz : Nat → Nat) (w : World) (e : Ending) (w' : World) : Prop :=
  (secs (sz 0) + secs (sz 1) + secs (sz 2) + secs (sz 3) - secs (sz j) + secs (sz j + k) ≤ cap ∧ e = .returned (.int .i64 0) ∧ (∃ m, m ≤ nt + 1 ∧ Room w' B F cap (upd sz j k) m) ∧ Soft B w w') ∨
  (cap < secs (sz 0) + secs (sz 1) + secs (sz 2) + secs (sz 3) - secs (sz j) + secs (sz j + k) ∧ e = .returned (.int .i64 5) ∧ Room w' B F cap sz nt ∧ Soft B w w')

theorem zeros_one (k : Nat) : ∀ u ∈ List.replicate k (Value.int .u8 0), u.oneCell' = true := by
  intro u hu
  rw [(List.mem_replicate.1 hu).2]
  rfl

theorem write_room (B F cap j k nt S c : Nat) (fr : Nat × Nat) (sz : Nat → Nat) (w : World) (hR : Room w B F cap sz nt) (hj : j < 4) (hBw : B ≤ w.heap.size) (hc0 : 0 < cap) (hc1 : cap ≤ 40) (hnt : nt ≤ 1000)
    (hsz : sz j ≤ 200000) (hk : k ≤ 3000) (hkc : k ≤ c) (hS : w.heap[S]? = some (.cells (List.replicate k (Value.int .u8 0)).toArray 5 fr)) :
    Calls Try.prog 25 #[.pointer (some ⟨F, 0, none⟩), .string (nm j), .int .i64 (sz j), .slice (some ⟨S, 0, none⟩) k c] w (Wr B F cap j k nt sz w) := by
  have hcells : ∀ n i u, (List.replicate k (Value.int .u8 0))[i]? = some u → (w.drewN n).cell? ((⟨S, 0, none⟩ : Addr).add i) = some u := by
    intro n i u hi
    rw [hb_cell_add (hb_drewN hS n), List.getElem?_toArray]
    exact hi
  obtain ⟨N, L, tv, ts, es, clock, st, hF, hN, hT, hA, hP, hBN, hBT⟩ := hR.all
  have hfits := hR.fits
  have hBF := hR.base
  obtain ⟨U, hU⟩ : ∃ U, U = secs (sz 0) + secs (sz 1) + secs (sz 2) + secs (sz 3) := ⟨_, rfl⟩
  have hum : secs (sz j) ≤ U := by
    have h : j = 0 ∨ j = 1 ∨ j = 2 ∨ j = 3 := by omega
    rcases h with rfl | rfl | rfl | rfl <;> omega
  cases es1 : st j with
  | some f =>
    have hH : Here w B es (nm j) (sz j) f := by have := hA j hj; rw [es1] at this; exact this
    obtain ⟨idx, hfound⟩ := hH.found
    obtain ⟨xs, hrow⟩ := hH.row
    by_cases hfit : U - secs (sz j) + secs (sz j + k) ≤ cap
    · have hput : ∀ n, Calls Try.prog 59 #[.pointer (some ⟨f.X, 0, none⟩), .int .i64 (sz j), .slice (some ⟨S, 0, none⟩) k c] (w.drewN n) fun e w' => e = .returned (.tuple #[]) ∧ PutEnd f.X (f.val (sz j)) (.slice none 0 0) (sz j) k xs (List.replicate k (.int .u8 0)) (w.drewN n) w' := by
        intro n
        obtain ⟨ao, cb, hv, hmc⟩ := own_val hrow
        rcases Nat.eq_zero_or_pos k with rfl | hk0
        · rcases hrow.2 with ⟨h1, h2⟩ | ⟨g, cp, cur, h1, _, _, hcp, _⟩
          · rw [h1, h2]
            have hx := hH.file
            have hr := hrow
            rw [h1] at hx hr
            rw [h2] at hr
            exact put_zero_nil f.X S c _ xs _ (hb_drewN hx n) (own_drewN hr n)
          · rw [h1]
            have hx := hH.file
            have hr := hrow
            rw [h1] at hx hr
            exact put_zero_some f.X g cp (sz j) S c _ xs _ (hb_drewN hx n) (own_drewN hr n) (by omega) hcp
        · rcases hrow.2 with ⟨h1, h2⟩ | ⟨g, cp, cur, h1, _, _, hcp, _⟩
          · obtain rfl : xs = [] := List.eq_nil_of_length_eq_zero (by rw [hrow.1, h2])
            rw [h1, h2]
            have hx := hH.file
            rw [h1] at hx
            exact put_nil f.X S c k _ _ _ (hb_drewN hx n) hk0 hkc (by omega) (by simp) (hcells n) (zeros_one k)
          · rw [h1]
            have hx := hH.file
            have hr := hrow
            rw [h1] at hx hr
            exact put_any f.X g cp S c (sz j) k _ xs _ _ (hb_drewN hx n) (own_drewN hr n) (by omega) hcp hk0 hkc (by omega) (by simp) (hcells n) (zeros_one k)
      have h := write_old F N L S c cap U f.X (sz j) k idx f.ao f.cb (.slice none 0 0) tv (nm j) es clock xs (List.replicate k (.int .u8 0)) w (hU ▸ hF) hN hfound hH.file hrow (by omega) hk (by rw [nm_size]; decide) (by rw [nm_size]; decide) (nm_ok j hj) hc0 (by omega) hum hfit (by omega) hput
      refine h.mono fun e w' h2 => .inl ⟨hU ▸ hfit, h2.1, ?_⟩
      have hg := h2.2
      rw [hU] at hg
      have h3 := room_old hj hF hN hT hA hP hBN hBT hBF hBw es1 hfound hrow (hU ▸ hfit) hg
      exact ⟨⟨nt, by omega, h3.1⟩, h3.2⟩
    · have h := full_old F N L S c cap U f.X (sz j) k idx f.ao f.cb (.slice none 0 0) tv (nm j) es clock w (hU ▸ hF) hN hfound hH.file (by omega) hk (by rw [nm_size]; decide) (by rw [nm_size]; decide) (nm_ok j hj) hc0 (by omega) hum (by unfold secs at hfit; omega) (by omega)
      refine h.mono fun e w' h2 => .inr ⟨by rw [← hU]; omega, h2.1, ?_⟩
      obtain ⟨n, rfl⟩ := h2.2
      exact ⟨hR.drewN n, Soft.drewN B w n⟩
  | none =>
    have hj0 : Finds es (nm j) none ∧ sz j = 0 := by have := hA j hj; rw [es1] at this; exact this
    have hs0 : secs (sz j) = 0 := by rw [hj0.2]; rfl
    have hsj : ((sz j : Nat) : Int) = 0 := by rw [hj0.2]; rfl
    rw [hsj]
    by_cases hfit : U + secs k ≤ cap
    · rcases Nat.eq_zero_or_pos k with rfl | hk0
      · have h := write_new02 F N L S c cap U tv nt ts (nm j) es clock w (hU ▸ hF) hN hT (by omega) (by rw [nm_size]; decide) (by rw [nm_size]; decide) (nm_ok j hj) hc0 (by omega) (by omega) hj0.1
        refine h.mono fun e w' h2 => .inl ⟨by rw [hj0.2, ← hU]; simp [secs]; omega, h2.1, ?_⟩
        obtain ⟨X, tv', g1, g2, g3, g4, g5, g6⟩ := h2.2.all
        have h3 := room_new (k := 0) (c := 0) (ao := none) (xs := []) hj hF hN hT hA hP hBN hBT hBF hBw es1 (by rw [← hU]; exact hfit) (by rw [← hU]; exact g1) g2 g3 g4 (World.ownsRow_nil _ _ _ _) g5 (by simp [Value.ownBlock]) g6 h2.2.size h2.2.rest h2.2.kept
        exact ⟨⟨nt + 1, Nat.le_refl _, h3.1⟩, h3.2⟩
      · have hlen : (List.replicate k (Value.int .u8 0)).length = k := List.length_replicate
        have h := write_new2 F N L S c cap U tv nt ts (nm j) es clock (List.replicate k (.int .u8 0)) fr w (hU ▸ hF) hN hT (by omega) hS (by omega) (by omega) (by omega) (zeros_one k) (by rw [nm_size]; decide) (by rw [nm_size]; decide) (nm_ok j hj) hc0 (by omega) (by rw [hlen]; exact hfit) hj0.1.run
          (fun X w => (hj0.1.push_same (.pointer (some ⟨X, 0, none⟩)) clock).run w)
        rw [hlen] at h
        refine h.mono fun e w' h2 => .inl ⟨by rw [hj0.2, ← hU, Nat.zero_add]; simp [secs] at hfit ⊢; omega, h2.1, ?_⟩
        obtain ⟨X, bv, tv', g, g1, g2, g3, g4, g5, g6, g7, g8, g9⟩ := h2.2.all
        rw [hlen] at g1 g5
        obtain ⟨ao, c2, rfl, _⟩ := own_val g5
        have h3 := room_new (k := k) (c := c2) (ao := ao) hj hF hN hT hA hP hBN hBT hBF hBw es1 (by rw [← hU]; exact hfit) (by rw [← hU]; exact g1) g2 g3 g4 g5 g6 (fun b hb => by rw [g7] at hb; obtain rfl := Option.some.inj hb; exact g8) g9 h2.2.size h2.2.rest h2.2.kept
        exact ⟨⟨nt + 1, Nat.le_refl _, h3.1⟩, h3.2⟩
    · have h := full_new F N L c cap U k (some ⟨S, 0, none⟩) tv (nm j) es clock w (hU ▸ hF) hN (by
        rcases Nat.eq_zero_or_pos k with rfl | h
        · exact absurd (by simp [secs]; omega) hfit
        · exact h) hk (by rw [nm_size]; decide) (by rw [nm_size]; decide) (nm_ok j hj) hc0 (by omega) (by omega) (by unfold secs at hfit; omega) hj0.1
      refine h.mono fun e w' h2 => .inr ⟨by rw [hj0.2, ← hU, Nat.zero_add]; simp [secs] at hfit ⊢; omega, h2.1, ?_⟩
      obtain ⟨n, rfl⟩ := h2.2
      exact ⟨hR.drewN n, Soft.drewN B w n⟩
end Go.Proofs.Ytdaipgeecmngfaa
