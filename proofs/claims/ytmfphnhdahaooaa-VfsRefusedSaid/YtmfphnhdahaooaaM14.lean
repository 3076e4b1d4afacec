/- The texts Gq, Gr, Gs, one behind the other. -/
import Derived.Test.YtmfphnhdahaooaaM13
import Derived.Test.YtmfphnhdahaooaaM12
set_option linter.unusedSimpArgs false
set_option linter.unusedVariables false
/- Bytes put into a file: one contract for all cases. -/
namespace Go.Proofs.Ytmfphnhdahaooaa
open Go.RowKit Go.Maps

set_option maxRecDepth 100000 in
set_option maxHeartbeats 1000000 in
theorem put_any2 (X B cb S c m k : Nat) (lv : Value) (xs news : List Value) (w : World) (hX : w.heap[X]? = some (.cells #[.slice (some ⟨B, 0, none⟩) m cb, lv] 85 (0, 0))) (hB : w.ownsRow 0 5 1 (.slice (some ⟨B, 0, none⟩) m cb) m xs) (hm : m ≤ 1048576) (hmc : m ≤ cb)
    (hk : 0 < k) (hkc : k ≤ c) (hkm : k ≤ 1048576) (hnl : news.length = k) (hnews : ∀ j u, news[j]? = some u → w.cell? ((⟨S, 0, none⟩ : Addr).add j) = some u) (hone : ∀ u ∈ news, u.oneCell' = true) :
    Calls Try.prog 59 #[.pointer (some ⟨X, 0, none⟩), .int .i64 m, .slice (some ⟨S, 0, none⟩) k c] w fun e w' => e = .returned (.tuple #[]) ∧ PutEnd X (.slice (some ⟨B, 0, none⟩) m cb) lv m k xs news w w' := by
  have c0 : w.cell? ⟨X, 0, none⟩ = some (.slice (some ⟨B, 0, none⟩) m cb) := hb_at hX 0 rfl
  have f0 := hb_free hX 0
  have hneB : some X ≠ (Value.slice (some ⟨B, 0, none⟩) m cb).ownBlock := own_ne hB hX (by simp)
  obtain ⟨i0, hi, hz0, hz1, hz2⟩ := info_parts info5
  have HN := Lib.hid hnews
  have HO := Lib.hid hone
  have HL := Lib.hid hnl
  have HX := Lib.hid hX
  have HB := Lib.hid hB
  have HE := Lib.hid hneB
  clear hnews hone hnl hX hB hneB
  go_enter Try.func59, Try.ntmps59
  go_wp2_with (refine wpList_copy_nothing (o := ⟨some 14, _, _, _, _, _⟩) rfl (.tmp 12) (.tmp 13) 45 45 rfl 5 Try.underlying45 size5 _ (some ⟨S, 0, none⟩) 0 _ k c rfl rfl (Nat.min_zero _) ?_)
  all_goals (go_region_law (refine step_append_lies _ rfl (.tmp 19) (.tmp 22) 45 rfl 0 5 i0 _ 1 1 Try.underlying45 hi hz0 hz1 hz2 rfl (by decide) _ m xs (by simp [Act.eval, Act.put] <;> omega) (own_drewN HB.out 1) ⟨S, 0, none⟩ k c news (by simp [Act.eval, Act.put]) (by rw [HL.out]; omega) HN.out HO.out hk (by unfold maxLen; omega) (by omega) (Nat.zero_le _) _ rfl ?_; intro g cap' w2 hown2 hg2 hat2 hlt2; have hX2 := hb_grown (w := w.drew) HX.out hg2 HE.out; have c02 : w2.cell? ⟨X, 0, none⟩ = some (.slice (some ⟨B, 0, none⟩) m cb) := hb_at hX2 0 rfl; have f02 := hb_free hX2 0))
  all_goals
    go_wp2_with fail
    go_end0
    have e1 := hg2.size
    have e2 := (grown_set w2 ⟨X, 0, none⟩ (.slice (some ⟨g, 0, none⟩) (m + k) cap')).size
    exact ⟨rfl, ⟨_, hb_set_same hX2 0 _, hown2.kept (grown_set _ _ _) (.inr fun e => own_ne hown2 hX2 (by simp) e.symm), hat2.elim (fun h => .inl h.symm) (fun h => .inr ⟨g, rfl, Nat.le_of_eq h.symm⟩)⟩,
      Nat.le_trans e1 e2, ⟨hg2.os, hg2.tape, hg2.output⟩, fun j x hj hjb h => hb_set_other (hb_grown (w := w.drew) h hg2 hjb) _ hj⟩

set_option maxRecDepth 100000 in
set_option maxHeartbeats 1000000 in
theorem put_zero2 (X B cb m S c : Nat) (lv : Value) (xs : List Value) (w : World) (hX : w.heap[X]? = some (.cells #[.slice (some ⟨B, 0, none⟩) m cb, lv] 85 (0, 0))) (hB : w.ownsRow 0 5 1 (.slice (some ⟨B, 0, none⟩) m cb) m xs) (hm : m ≤ 1048576) (hmc : m ≤ cb) :
    Calls Try.prog 59 #[.pointer (some ⟨X, 0, none⟩), .int .i64 m, .slice (some ⟨S, 0, none⟩) 0 c] w fun e w' => e = .returned (.tuple #[]) ∧ PutEnd X (.slice (some ⟨B, 0, none⟩) m cb) lv m 0 xs [] w w' := by
  have c0 : w.cell? ⟨X, 0, none⟩ = some (.slice (some ⟨B, 0, none⟩) m cb) := hb_at hX 0 rfl
  have f0 := hb_free hX 0
  obtain ⟨i0, hi, hz0, hz1, hz2⟩ := info_parts info5
  have HX := Lib.hid hX
  have HB := Lib.hid hB
  clear hX hB
  go_enter Try.func59, Try.ntmps59
  go_wp2_with (refine wpList_copy_nothing (o := ⟨some 14, _, _, _, _, _⟩) rfl (.tmp 12) (.tmp 13) 45 45 rfl 5 Try.underlying45 size5 _ (some ⟨S, 0, none⟩) 0 _ 0 c rfl rfl (Nat.min_zero _) ?_)
  all_goals (go_region_law (refine step_append_zero rfl (.tmp 19) (.tmp 22) 45 rfl 5 i0 Try.underlying45 hi (some ⟨B, 0, none⟩) m cb (by omega) (by simp [Act.eval, Act.put] <;> omega) ⟨S, 0, none⟩ c (by simp [Act.eval, Act.put] <;> omega) ?_))
  all_goals
    go_wp2_with fail
    go_end0
    exact ⟨rfl, put_same HX.out HB.out (by first | rfl | (simp; omega))⟩


set_option maxRecDepth 100000 in
set_option maxHeartbeats 1000000 in
theorem put_zero_mid (X g cb m at_ S c : Nat) (lv : Value) (xs : List Value) (w : World) (hX : w.heap[X]? = some (.cells #[.slice (some ⟨g, 0, none⟩) m cb, lv] 85 (0, 0))) (hm : m ≤ 1048576) (hmc : m ≤ cb) (hat : at_ < m) :
    Calls Try.prog 59 #[.pointer (some ⟨X, 0, none⟩), .int .i64 at_, .slice (some ⟨S, 0, none⟩) 0 c] w fun e w' => e = .returned (.tuple #[]) ∧ w' = w.drew := by
  have c0 : w.cell? ⟨X, 0, none⟩ = some (.slice (some ⟨g, 0, none⟩) m cb) := hb_at hX 0 rfl
  have f0 := hb_free hX 0
  obtain ⟨i0, hi, hz0, hz1, hz2⟩ := info_parts info5
  have i1 : (at_ : Int) ≤ (m : Int) := by omega
  have i2 : (0 : Int) ≤ (at_ : Int) := by omega
  have i3 : ¬ cb ≤ at_ := by omega
  have HX := Lib.hid hX
  have C0 := Lib.hid c0
  clear hX
  go_enter Try.func59, Try.ntmps59
  go_wp2_with (refine wpList_copy_nothing (o := ⟨some 14, _, _, _, _, _⟩) rfl (.tmp 12) (.tmp 13) 45 45 rfl 5 Try.underlying45 size5 _ (some ⟨S, 0, none⟩) _ _ 0 c rfl rfl (Nat.zero_min _) ?_)
  all_goals (go_region_law (refine step_append_zero rfl (.tmp 19) (.tmp 22) 45 rfl 5 i0 Try.underlying45 hi (some ⟨g, 0, none⟩) m cb (by omega) (by simp [Act.eval, Act.put] <;> omega) ⟨S, 0, none⟩ c (by simp [Act.eval, Act.put] <;> omega) ?_))
  all_goals
    go_wp2_with fail
    go_end0
    rw [setCell_id C0.out]
    exact ⟨rfl, rfl⟩

theorem putL_nil (xs : List Value) (a : Nat) : putL xs a [] = xs := by simp [putL]

theorem put_all (B X S at_ k : Nat) (bv lv : Value) (xs news : List Value) (fr : Nat × Nat) (w : World) (hX : w.heap[X]? = some (.cells #[bv, lv] 85 (0, 0))) (hB : w.ownsRow B 5 1 bv xs.length xs) (hBw : B ≤ w.heap.size) (hSg : bv.ownBlock ≠ some S)
    (hlen : xs.length ≤ 1048576) (hk : news.length = k) (hk1 : k ≤ 3000) (hat : at_ ≤ xs.length) (hS : w.heap[S]? = some (.cells news.toArray 5 fr)) (hone : ∀ u ∈ news, u.oneCell' = true) :
    Calls Try.prog 59 #[.pointer (some ⟨X, 0, none⟩), .int .i64 at_, .slice (some ⟨S, 0, none⟩) k k] w fun e w' => e = .returned (.tuple #[]) ∧ PutG B X bv lv at_ xs news w w' := by
  have hcell : ∀ W : World, W.heap[S]? = w.heap[S]? → ∀ j u, news[j]? = some u → W.cell? ⟨S, j, none⟩ = some u := by
    intro W hW j u hj
    rw [hb_cell (hW.trans hS), List.getElem?_toArray]
    exact hj
  have hadd : ∀ W : World, W.heap = w.heap → ∀ j u, news[j]? = some u → W.cell? ((⟨S, 0, none⟩ : Addr).add j) = some u := by
    intro W hW j u hj
    have e : ((⟨S, 0, none⟩ : Addr).add j) = ⟨S, j, none⟩ := by
      unfold Addr.add
      by_cases h : j = 0 <;> simp [h]
    rw [e]
    exact hcell W (by rw [hW]) j u hj
  rcases hB.2 with ⟨rfl, h0⟩ | ⟨g, cap, cur, rfl, hBg, hgb, hlc, _⟩
  · obtain rfl := List.eq_nil_of_length_eq_zero h0
    obtain rfl : at_ = 0 := by simpa using hat
    rcases Nat.eq_zero_or_pos k with rfl | hk0
    · obtain rfl := List.eq_nil_of_length_eq_zero hk
      refine (put_zero_nil X S 0 lv [] w hX (World.ownsRow_nil _ _ _ _)).mono ?_
      rintro e w' ⟨rfl, h⟩
      exact ⟨rfl, putG_end (xs := []) (news := []) h hB hBw⟩
    · refine (put_nil X S k k lv news w hX hk0 (Nat.le_refl _) (by omega) (by rw [hk]) (hadd w rfl) hone).mono ?_
      rintro e w' ⟨rfl, h⟩
      rw [← hk] at h
      exact ⟨rfl, putG_end (xs := []) h hB hBw⟩
  · rcases Nat.eq_zero_or_pos k with rfl | hk0
    · obtain rfl := List.eq_nil_of_length_eq_zero hk
      rcases Nat.lt_or_ge at_ xs.length with hlt | hge
      · refine (put_zero_mid X g cap xs.length at_ S 0 lv xs w hX hlen hlc hlt).mono ?_
        rintro e w' ⟨rfl, rfl⟩
        exact ⟨rfl, ⟨_, hX, by rw [putL_nil]; exact own_drewN hB 1, .inl rfl⟩, Nat.le_refl _, ⟨rfl, rfl, rfl⟩, fun j x _ _ hx => hx⟩
      · obtain rfl : at_ = xs.length := by omega
        refine (put_zero2 X g cap xs.length S 0 lv xs w hX (own_base hB (Nat.zero_le _)) hlen hlc).mono ?_
        rintro e w' ⟨rfl, h⟩
        exact ⟨rfl, putG_end (news := []) h hB hBw⟩
    · rcases Nat.lt_or_ge at_ xs.length with hlt | hge
      · rcases Nat.lt_or_ge xs.length (at_ + k) with hp | hp
        · exact put_past B X g cap S at_ xs.length k lv xs news w hX hB hBw (fun e => hSg (by rw [e]; rfl)) hlen hlc hk (by omega) hlt hp hcell hone
        · exact put_over B X g cap S at_ xs.length k lv xs news w hX hB hlen hlc hk hk0 hp hadd hone
      · obtain rfl : at_ = xs.length := by omega
        refine (put_any2 X g cap S k xs.length k lv xs news w hX (own_base hB (Nat.zero_le _)) hlen hlc hk0 (Nat.le_refl _) (by omega) hk (hadd w rfl) hone).mono ?_
        rintro e w' ⟨rfl, h⟩
        rw [← hk] at h
        exact ⟨rfl, putG_end h hB hBw⟩
end Go.Proofs.Ytmfphnhdahaooaa
/- Write into a file of any store that is there. -/
namespace Go.Proofs.Ytmfphnhdahaooaa
open Go.RowKit Go.Maps

theorem putL_len {xs news : List Value} {a : Nat} (ha : a ≤ xs.length) : (putL xs a news).length = max xs.length (a + news.length) := by
  unfold putL
  simp
  omega
theorem putL_mem {xs news : List Value} {a : Nat} (h1 : OneB xs) (h2 : OneB news) : OneB (putL xs a news) := by
  intro u hu
  unfold putL at hu
  rcases List.mem_append.1 hu with h | h
  · exact h1 u (List.mem_of_mem_take h)
  · rcases List.mem_append.1 h with h | h
    · exact h2 u h
    · exact h1 u (List.mem_of_mem_drop h)

theorem Raw.put {w w' : World} {B F N L n m X a : Nat} {A : Fs} {tv : Value} {f : Fil} {news : List Value} (h : Raw w B F A N L n m tv) (hX : A.file X = some f) (hp : PutG B X f.bv f.lv a f.xs news w w') (hn : OneB news) (ha : a ≤ f.xs.length) (hm : a + news.length ≤ 1048576) :
    (∃ bv, Raw w' B F { A with file := updF A.file X ⟨bv, f.lv, putL f.xs a news, f.ls⟩ } N L n m tv) ∧ Frm B w w' := by
  obtain ⟨bv', h1, h2, h3⟩ := hp.own
  have hk := h.files X f hX
  have hl := h.lone X X f f hX hX
  have hnew : ∀ g, bv'.ownBlock = some g → (bv'.ownBlock = f.bv.ownBlock ∨ w.heap.size ≤ g) := by
    intro g hg
    rcases h3 with e | ⟨g2, e, hg2⟩
    · exact .inl e
    · rw [e] at hg
      obtain rfl := Option.some.inj hg
      exact .inr hg2
  refine ⟨⟨bv', Raw.refile h hX ⟨hk.new, h1, h2, ?_, ?_, putL_mem hk.bytes.1 hn, hk.bytes.2⟩ hp.kept ?_ (.inl rfl) ?_⟩, hp.size, hp.rest, ?_, ?_⟩
  · refine own_kept hk.lasts fun g x hg hx => hp.kept g x (fun e => own_ne hk.lasts hk.block (by simp) (by rw [hg, e])) (fun e => ?_) hx
    exact hl.2 (by rw [← e]; simp) (by rw [← e, hg])
  · refine ⟨?_, hk.small.2⟩
    show (putL f.xs a news).length ≤ 1048576
    rw [putL_len ha]
    have := hk.small.1
    omega
  · rcases h3 with e | ⟨g, e, hg⟩
    · exact .inl e
    · exact .inr (fresh_new h fun g2 hg2 => by
        have e2 : bv'.ownBlock = some g2 := hg2
        rw [e] at e2
        obtain rfl := Option.some.inj e2
        exact hg)
  · intro hne e
    have hne' : bv'.ownBlock ≠ none := hne
    have e' : bv'.ownBlock = f.lv.ownBlock := e
    obtain ⟨g, hg⟩ := Option.ne_none_iff_exists'.1 hne'
    rcases hnew g hg with e2 | hg2
    · exact hl.2 (by rw [← e2]; exact hne') (by rw [← e2]; exact e')
    · have := own_lt hk.lasts (by rw [← e']; exact hg)
      omega
  · intro b hb
    have hbl : b < w.heap.size := by have := hb_lt h.store; have := h.new.1; omega
    rw [Array.getElem?_eq_getElem hbl]
    refine hp.kept b _ (by have := hk.new; omega) (fun e => ?_) (Array.getElem?_eq_getElem hbl)
    have := (hk.now.lt b e.symm).1
    omega
  · intro b cs t fr h82 h85 h87 h5 hx
    exact hp.kept b _ (tag_ne hx hk.block h85) (own_ne hk.now hx (by intro cs f e; simp at e; exact h5 e.2.1)) hx

def WroteR (s : ByteArray) (a : Nat) (news : List Value) (A A' : Fs) : Prop :=
  (∃ (X : Nat) (f : Fil) (bv : Value), A.dir s = some X ∧ A.file X = some f ∧ a ≤ f.xs.length ∧
    A' = { A with used := A.used - (sz f.xs.length : Int) + (sz (max f.xs.length (a + news.length)) : Int), file := updF A.file X ⟨bv, f.lv, putL f.xs a news, f.ls⟩ }) ∨
  (∃ (X : Nat) (bv : Value), NameP s ∧ A.dir s = none ∧ a = 0 ∧ A.file X = none ∧
    A' = { A with used := A.used + (sz news.length : Int), dir := upN A.dir s (some X), turns := A.turns ++ [⟨0, s, ⟨#[]⟩, some X⟩], file := updF A.file X ⟨bv, .slice none 0 0, news, []⟩ })

theorem sectors_max2 (m a k mx : Nat) (h : mx ≤ 4194304) (hmx : mx = max m (a + k)) (w : World) : Calls Try.prog 53 #[.int .i64 (if (m : Int) < (a : Int) + (k : Int) then (a : Int) + (k : Int) else (m : Int))] w fun e w' => e = .returned (.int .i64 (((mx + 511) / 512 : Nat) : Int)) ∧ w = w' := by
  have e : (if (m : Int) < (a : Int) + (k : Int) then (a : Int) + (k : Int) else (m : Int)) = (mx : Int) := by split <;> omega
  rw [e]
  exact sectors_any mx h w

theorem quiet_eq {P : Program} {f : FuncId} {args : Array Value} {w : World} {n : Nat} {v : Value}
    (h : Calls P f args (w.drewN n) fun e w' => e = .returned v ∧ w.drewN n = w') : Calls P f args (w.drewN n) fun e w'' => e = .returned v ∧ ∃ m, w'' = w.drewN m :=
  h.mono fun _ _ ⟨he, hm⟩ => ⟨he, n, hm.symm⟩

theorem there_end {w w1 w2 : World} {B F N L n m k X a j : Nat} {A : Fs} {tv : Value} {s : ByteArray} {f : Fil} {news : List Value} {U : Int} (h0 : Raw w B F A N L n m tv) (h1 : n ≤ k ∧ m + A.turns.length ≤ k ∧ -(4096 * (k : Int)) ≤ A.used ∧ A.used ≤ 4096 * (k : Int)) (hc : A.code = 0) (hd : A.dir s = some X) (hf : A.file X = some f)
    (ha : a ≤ f.xs.length) (hm : a + news.length ≤ 1048576) (hn : OneB news) (hg : w.grownBy w1 (some F)) (hR : Raw w1 B F A.step N L n m tv) (hp : PutG B X f.bv f.lv a f.xs news (w1.drewN j) w2)
    (hU : U = A.used - (sz f.xs.length : Int) + (sz (max f.xs.length (a + news.length)) : Int)) : OpP B F A k (WroteR s a news) w (.returned (.int .i64 0)) (w2.setCell ⟨F, 1, none⟩ (.int .i64 U)) := by
  have hRd : Raw (w1.drewN j) B F A.step N L n m tv := hR.kept fun _ _ h => h
  obtain ⟨⟨bv, hR2⟩, hf2⟩ := hRd.put hf hp hn ha hm
  have hR3 := hR2.turned (grown_at w2 F 1 (.int .i64 U)) { ({ A.step with file := updF A.step.file X ⟨bv, f.lv, putL f.xs a news, f.ls⟩ } : Fs) with used := U } (hb_set_same hR2.store 1 _) rfl rfl rfl rfl rfl hR2.nums
  have hsm := (h0.files X f hf).small.1
  have b1 := sz_le hsm
  have b2 := sz_le (show max f.xs.length (a + news.length) ≤ 1048576 by omega)
  refine ⟨0, _, rfl, sto_mk hR3 ⟨by omega, Nat.le_succ_of_le h1.2.1, ?_, ?_⟩, .inr ⟨rfl, hc, .inl ⟨X, f, bv, hd, hf, ha, ?_⟩⟩, (((raw_frm h0 hg).trans (Frm.drewN B w1 j)).trans hf2).trans (Frm.ofGrown (grown_at w2 F 1 _) hR2.store (.inl rfl) hR2.new.1)⟩
  · show -(4096 * ((k + 1 : Nat) : Int)) ≤ U
    omega
  · show U ≤ 4096 * ((k + 1 : Nat) : Int)
    omega
  · rw [hU]
    rfl

set_option maxRecDepth 100000 in
set_option maxHeartbeats 4000000 in
theorem write_there {w : World} {B F N L n m k S q X : Nat} {A : Fs} {tv : Value} (h : Raw w B F A N L n m tv) (hb : n ≤ k ∧ m + A.turns.length ≤ k ∧ -(4096 * (k : Int)) ≤ A.used ∧ A.used ≤ 4096 * (k : Int)) (hk1 : k ≤ 1000) (s : ByteArray) (hs : s.size ≤ maxLen) (at_ : Int)
    (news : List Value) (fr : Nat × Nat) (hS : w.heap[S]? = some (.cells news.toArray 5 fr)) (hq : news.length = q) (hq2 : q ≤ 3000) (hone : OneB news) (hSn : ∀ X f, A.file X = some f → f.bv.ownBlock ≠ some S) (hd : A.dir s = some X) :
    Calls Try.prog 25 #[.pointer (some ⟨F, 0, none⟩), .string s, .int .i64 at_, .slice (some ⟨S, 0, none⟩) q q] w (OpP B F A k (WroteR s at_.toNat news) w) := by
  obtain ⟨f, hf⟩ := Option.isSome_iff_exists.1 (h.dirs s X hd).2
  have hk := h.files X f hf
  obtain ⟨ao, c, hbv, hlc⟩ := own_sl hk.now
  obtain ⟨bv, lv, xs, ls⟩ := f
  dsimp only at hbv hlc
  subst hbv
  have hsm : xs.length ≤ 1048576 := hk.small.1
  have hn := (h.dirs s X hd).1
  have c2 := h.cells.c2
  have H := Lib.hid h
  have HB := Lib.hid hb
  have HL := Lib.hid hs
  have HD := Lib.hid hd
  have HF := Lib.hid hf
  have HK := Lib.hid hk
  have HN := Lib.hid hn
  have HS := Lib.hid hS
  have HQ := Lib.hid hq
  have HO := Lib.hid hone
  have HSN := Lib.hid hSn
  obtain ⟨l, hl⟩ : ∃ l, l = xs.length := ⟨_, rfl⟩
  have HLN := Lib.hid hl
  have hkb : w.heap[X]? = some (.cells #[.slice ao l c, lv] 85 (0, 0)) := by rw [hl]; exact hk.block
  have HKB := Lib.hid hkb
  rw [← hl] at hlc hsm
  clear h hb hs hd hf hk hn hS hq hone hSn hl hkb
  by_cases hneg : at_ < 0
  · go_enter Try.func25, Try.ntmps25
    go_wp2_with (first
      | ((go_at_call 46; with_reducible refine (H.out.made).mono ?_); rintro e w' ⟨rfl, rfl⟩)
      | (at_lookup; refine wpList_nm_look _ rfl _ _ false rfl rfl H.out.names s rfl HL.out (some X) HD.out (.pointer (some ⟨X, 0, none⟩)) rfl ?_)
      | ((go_at_call 57; with_reducible refine (size_ok X l c ao lv _ HKB.out).mono ?_); rintro e w' ⟨rfl, rfl⟩)
      | ((go_at_call 48; with_reducible refine (isName_yes s _ HN.out).mono ?_); rintro e w' ⟨rfl, rfl⟩)
      | go_in)
    go_ret
    exact op_refused H.out HB.out (by decide) rfl
  obtain ⟨a, rfl⟩ : ∃ a : Nat, at_ = (a : Int) := ⟨at_.toNat, by omega⟩
  rw [Int.toNat_natCast]
  clear hneg
  by_cases hpast : l < a
  · have h1 : (l : Int) < (a : Int) := by omega
    go_enter Try.func25, Try.ntmps25
    go_wp2_with (first
      | ((go_at_call 46; with_reducible refine (H.out.made).mono ?_); rintro e w' ⟨rfl, rfl⟩)
      | (at_lookup; refine wpList_nm_look _ rfl _ _ false rfl rfl H.out.names s rfl HL.out (some X) HD.out (.pointer (some ⟨X, 0, none⟩)) rfl ?_)
      | ((go_at_call 57; with_reducible refine (size_ok X l c ao lv _ HKB.out).mono ?_); rintro e w' ⟨rfl, rfl⟩)
      | ((go_at_call 48; with_reducible refine (isName_yes s _ HN.out).mono ?_); rintro e w' ⟨rfl, rfl⟩)
      | go_in)
    go_ret
    exact op_refused H.out HB.out (by decide) rfl
  have hal : (a : Int) ≤ (l : Int) := by omega
  by_cases hbig : 1048576 < a + q
  · have h1 : 1048576 - (a : Int) < (q : Int) := by omega
    clear hpast
    go_enter Try.func25, Try.ntmps25
    go_wp2_with (first
      | ((go_at_call 46; with_reducible refine (H.out.made).mono ?_); rintro e w' ⟨rfl, rfl⟩)
      | (at_lookup; refine wpList_nm_look _ rfl _ _ false rfl rfl H.out.names s rfl HL.out (some X) HD.out (.pointer (some ⟨X, 0, none⟩)) rfl ?_)
      | ((go_at_call 57; with_reducible refine (size_ok X l c ao lv _ HKB.out).mono ?_); rintro e w' ⟨rfl, rfl⟩)
      | ((go_at_call 48; with_reducible refine (isName_yes s _ HN.out).mono ?_); rintro e w' ⟨rfl, rfl⟩)
      | go_in)
    go_ret
    exact op_refused H.out HB.out (by decide) rfl
  have hfit : (q : Int) ≤ 1048576 - (a : Int) := by omega
  clear hbig hpast
  by_cases hc : A.code = 0
  · have HC := Lib.hid hc
    clear hc
    go_enter Try.func25, Try.ntmps25
    go_upto_region 9 with (first
      | ((go_at_call 46; with_reducible refine (H.out.made).mono ?_); rintro e w' ⟨rfl, rfl⟩)
      | (at_lookup; refine wpList_nm_look _ rfl _ _ false rfl rfl H.out.names s rfl HL.out (some X) HD.out (.pointer (some ⟨X, 0, none⟩)) rfl ?_)
      | ((go_at_call 57; with_reducible refine (size_ok X l c ao lv _ HKB.out).mono ?_); rintro e w' ⟨rfl, rfl⟩)
      | ((go_at_call 48; with_reducible refine (isName_yes s _ HN.out).mono ?_); rintro e w' ⟨rfl, rfl⟩)
      | ((go_at_call 44; with_reducible refine (step0 H.out HC.out).mono ?_); rintro e w1 ⟨rfl, hR, hg⟩)
      | go_in)
    have c1 : w1.cell? ⟨F, 1, none⟩ = some (.int .i64 A.used) := hR.cells.c1
    have c0 : w1.cell? ⟨F, 0, none⟩ = some (.int .i64 (A.cap : Nat)) := hR.cells.c0
    have c2b := hR.cells.c2
    have HG := Lib.hid hg
    have HR := Lib.hid hR
    obtain ⟨mx, hmx⟩ : ∃ mx, mx = max l (a + q) := ⟨_, rfl⟩
    have hub := HB.out.2.2
    have hmxl : mx ≤ 1048576 := by omega
    have q1 : IntKind.i64.wrap (A.used - (((l + 511) / 512 : Nat) : Int)) = A.used - (((l + 511) / 512 : Nat) : Int) := IntWalk.i64_in _ (by omega)
    have q2 : IntKind.i64.wrap ((a : Int) + (q : Int)) = (a : Int) + (q : Int) := IntWalk.i64_in _ (by omega)
    have q3 : IntKind.i64.wrap (A.used - (((l + 511) / 512 : Nat) : Int) + (((mx + 511) / 512 : Nat) : Int)) = A.used - (((l + 511) / 512 : Nat) : Int) + (((mx + 511) / 512 : Nat) : Int) := IntWalk.i64_in _ (by omega)
    have q4 : IntKind.i64.wrap (A.used - ((l : Int) + 511) / 512) = A.used - ((l : Int) + 511) / 512 := IntWalk.i64_in _ (by omega)
    have q5 : IntKind.i64.wrap (A.used - ((l : Int) + 511) / 512 + ((mx : Int) + 511) / 512) = A.used - ((l : Int) + 511) / 512 + ((mx : Int) + 511) / 512 := IntWalk.i64_in _ (by omega)
    have HMX := Lib.hid hmx
    have HUB := Lib.hid hub
    clear hg hR hmx hub c2
    go_quiet ((first | (go_at_call 53; exact quiet_eq (sectors_any l (by omega) _)) | (go_at_call 53; exact quiet_eq (sectors_max2 l a q mx (by omega) HMX.out _))))
    obtain ⟨U, hU⟩ : ∃ U : Int, U = A.used - ((l : Int) + 511) / 512 + ((mx : Int) + 511) / 512 := ⟨_, rfl⟩
    rw [← hU]
    have HU := Lib.hid hU
    clear hU q1 q2 q3 q4 q5
    by_cases hcap : (A.cap : Int) < U
    · go_wp2
      all_goals go_ret
      all_goals exact ⟨5, A.step, rfl, (sto_mk (Raw.kept (w' := w1.drewN nq) HR.out fun _ _ h => h) HB.out).mono (Nat.le_succ _), .inl ⟨by decide, .inr rfl⟩, (raw_frm H.out HG.out).trans (Frm.drewN B w1 _)⟩
    · have hcap2 : U ≤ (A.cap : Int) := by omega
      clear hcap
      have hS1 : w1.heap[S]? = some (.cells news.toArray 5 fr) := hb_grown HS.out HG.out (fun e => tag_ne HS.out H.out.store (by decide) (Option.some.inj e))
      have hput : ∀ j, Calls Try.prog 59 #[.pointer (some ⟨X, 0, none⟩), .int .i64 a, .slice (some ⟨S, 0, none⟩) q q] (w1.drewN j) fun e w' => e = .returned (.tuple #[]) ∧ PutG B X (.slice ao xs.length c) lv a xs news (w1.drewN j) w' := fun j =>
        put_all B X S a q (.slice ao xs.length c) lv xs news fr (w1.drewN j) (HR.out.files X _ HF.out).block (own_drewN (HR.out.files X _ HF.out).now j) (Nat.le_trans HR.out.new.1 (Nat.le_of_lt (hb_lt HR.out.store))) (HSN.out X _ HF.out) (by rw [← HLN.out]; exact hsm) HQ.out hq2 (by rw [← HLN.out]; omega) hS1 HO.out.cells
      have HPUT := Lib.hid hput
      have hlk : ∀ (cm : Bool) (j : Nat), (Instr.lookup 79 (.map (some N)) (.string s) cm).run Try.prog (w1.drewN j) = .ok (nmRes cm (some X)) (w1.drewN j) := fun cm j => (HR.out.names.kept (w' := w1.drewN j) fun _ h => h).look cm s HL.out (some X) HD.out
      have HLK := Lib.hid hlk
      have hnm : ∀ j, NameMap (w1.drewN j) N n A.dir := fun j => HR.out.names.kept fun _ h => h
      have HNM := Lib.hid hnm
      clear hput hS1 hlk hnm
      go_upto_region 16 with (first
        | (at_lookup; refine wpList_nm_look (o := ⟨some 75, _, _, _, _, _⟩) _ rfl _ _ true rfl rfl (HNM.out _) s rfl HL.out (some X) HD.out (.tuple #[.pointer (some ⟨X, 0, none⟩), .bool true]) rfl ?_)
        | (at_lookup; refine wpList_nm_look (o := ⟨some 91, _, _, _, _, _⟩) _ rfl _ _ false rfl rfl (HNM.out _) s rfl HL.out (some X) HD.out (.pointer (some ⟨X, 0, none⟩)) rfl ?_)
        | ((go_at_call 59; with_reducible refine (HPUT.out _).mono ?_); rintro e w2 ⟨rfl, hP⟩)
        | go_in)
      have hkf := HK.out
      have hF2 := hP.kept F _ (tag_ne (hb_drewN HR.out.store nq) (hb_drewN (HR.out.files X _ HF.out).block nq) (by decide)) (own_ne (own_drewN (HR.out.files X _ HF.out).now nq) (hb_drewN HR.out.store nq) (by simp)) (hb_drewN HR.out.store nq)
      have e1 : w2.cell? ⟨F, 1, none⟩ = some (.int .i64 A.step.used) := hb_at hF2 1 rfl
      have e2 := hb_free hF2 1
      have HP := Lib.hid hP
      clear hkf hF2 hP
      go_wp2
      all_goals go_ret
      all_goals
        refine there_end H.out HB.out HC.out HD.out HF.out ?_ ?_ HO.out HG.out HR.out HP.out ?_
        · show a ≤ xs.length
          rw [← HLN.out]; omega
        · rw [HQ.out]; omega
        · show U = A.used - (sz xs.length : Int) + (sz (max xs.length (a + news.length)) : Int)
          rw [HU.out, HMX.out, HQ.out, ← HLN.out]
          unfold sz
          omega
  · obtain ⟨cd, hcd⟩ : ∃ cd, A.code = cd := ⟨_, rfl⟩
    rw [hcd] at hc
    have n1 : (cd == 0) = false := by simpa using hc
    have n2 : (cd != 0) = true := by simpa using hc
    have HC := Lib.hid hc
    have HCD := Lib.hid hcd
    clear hc hcd
    go_enter Try.func25, Try.ntmps25
    go_wp2_with (first
      | ((go_at_call 46; with_reducible refine (H.out.made).mono ?_); rintro e w' ⟨rfl, rfl⟩)
      | (at_lookup; refine wpList_nm_look _ rfl _ _ false rfl rfl H.out.names s rfl HL.out (some X) HD.out (.pointer (some ⟨X, 0, none⟩)) rfl ?_)
      | ((go_at_call 57; with_reducible refine (size_ok X l c ao lv _ HKB.out).mono ?_); rintro e w' ⟨rfl, rfl⟩)
      | ((go_at_call 48; with_reducible refine (isName_yes s _ HN.out).mono ?_); rintro e w' ⟨rfl, rfl⟩)
      | ((go_at_call 44; with_reducible refine (step1 H.out cd HCD.out).mono ?_); rintro e w1 ⟨rfl, hR, hg⟩)
      | go_in)
    go_ret
    exact op_stepped H.out hR hg HB.out HC.out rfl
end Go.Proofs.Ytmfphnhdahaooaa
/- Write of a new file of any store. -/
namespace Go.Proofs.Ytmfphnhdahaooaa
open Go.RowKit Go.Maps

def emptyF : Fil := ⟨.slice none 0 0, .slice none 0 0, [], []⟩
theorem updF_twice (g : Nat → Option Fil) (X : Nat) (f f' : Fil) : updF (updF g X f) X f' = updF g X f' := by
  funext Y
  unfold updF
  split <;> rfl

section
variable {w w' : World} {B F N L n m : Nat} {A : Fs} {tv : Value}
theorem Raw.file_lt (h : Raw w B F A N L n m tv) {X : Nat} {f : Fil} (hX : A.file X = some f) : X < w.heap.size := hb_lt (h.files X f hX).block
theorem Raw.no_file (h : Raw w B F A N L n m tv) : A.file w.heap.size = none := by
  cases e : A.file w.heap.size with
  | none => rfl
  | some f => exact absurd (h.file_lt e) (Nat.lt_irrefl _)

theorem Raw.newfile (h : Raw w B F A N L n m tv) : Raw (w.alloc (.cells #[.slice none 0 0, .slice none 0 0] 85)) B F { A with file := updF A.file w.heap.size emptyF } N L n m tv := by
  have hk := h.kept (w' := w.alloc (.cells #[.slice none 0 0, .slice none 0 0] 85)) fun _ _ hx => hb_alloc hx _
  have hB : B ≤ w.heap.size := Nat.le_trans h.new.1 (Nat.le_of_lt (hb_lt h.store))
  have hsome : ∀ X, (A.file X).isSome = true → (updF A.file w.heap.size emptyF X).isSome = true := fun X hX => updF_some hX
  refine ⟨hk.store, hk.names, hk.lasts, hk.two, hk.row, hk.new, ?_, ?_, fun s X hs => ⟨(h.dirs s X hs).1, hsome X (h.dirs s X hs).2⟩, fun s X hs => ⟨(h.lastd s X hs).1, hsome X (h.lastd s X hs).2⟩,
    fun t ht => ⟨(h.turn t ht).1, (h.turn t ht).2.1, (h.turn t ht).2.2.1, fun X hX => hsome X ((h.turn t ht).2.2.2 X hX)⟩, h.caps, h.nums⟩
  · intro X f hX
    have hX' : updF A.file w.heap.size emptyF X = some f := hX
    unfold updF at hX'
    split at hX'
    · rename_i e
      obtain rfl := Option.some.inj hX'
      subst e
      exact ⟨hB, heap_alloc_new w _, World.ownsRow_nil _ _ _ _, World.ownsRow_nil _ _ _ _, ⟨Nat.zero_le _, Nat.zero_le _⟩, ⟨(fun u hu => by cases hu), (fun u hu => by cases hu)⟩⟩
    · exact hk.files X f hX'
  · intro X Y f g hX hY
    have hX' : updF A.file w.heap.size emptyF X = some f := hX
    have hY' : updF A.file w.heap.size emptyF Y = some g := hY
    unfold updF at hX' hY'
    split at hX'
    · obtain rfl := Option.some.inj hX'
      exact ⟨fun _ hn => absurd rfl hn, fun hn => absurd rfl hn⟩
    · split at hY'
      · obtain rfl := Option.some.inj hY'
        exact ⟨fun _ hn => hn, fun hn => hn⟩
      · exact h.lone X Y f g hX' hY'

theorem do_comesF (h : Raw w B F A N L n m tv) (s : ByteArray) (hs : NameP s) (X : Nat) (hX : (A.file X).isSome = true) (hn : n < maxLen) (hk : A.turns.length ≤ 1000000) :
    Calls Try.prog 58 #[.pointer (some ⟨F, 0, none⟩), .agg #[.int .i64 0, .string s, .string ⟨#[]⟩, .pointer (some ⟨X, 0, none⟩)]] w fun e w' => e = .returned (.tuple #[]) ∧
      (∃ tv', Raw w' B F { A with dir := appT A.dir ⟨0, s, ⟨#[]⟩, some X⟩, turns := A.turns ++ [⟨0, s, ⟨#[]⟩, some X⟩] } N L (n + 1) m tv') ∧ Frm B w w' ∧ ∀ (b : Nat) (cs : Array Value) (f : Nat × Nat), w.heap[b]? = some (Obj.cells cs 5 f) → w'.heap[b]? = some (Obj.cells cs 5 f) := by
  have ht : (⟨0, s, ⟨#[]⟩, some X⟩ : Tn).ok := ⟨hs.small, Nat.zero_le _, .inl ⟨rfl, X, rfl⟩⟩
  have hB : B ≤ w.heap.size := Nat.le_trans h.new.1 (Nat.le_of_lt (hb_lt h.store))
  refine (do_any B F N L A.cap A.used A.fail A.pow A.off tv A.turns.length n (A.turns.flatMap Tn.cells) ⟨0, s, ⟨#[]⟩, some X⟩ A.dir w h.store h.names hn h.row hk hB ht).mono ?_
  rintro e w' ⟨rfl, hd⟩
  obtain ⟨r1, r2⟩ := h.did hd ht (fun _ _ => hs) (fun h => by cases h) (fun Y hY => by cases hY; exact hX)
  obtain ⟨es, ck, hN⟩ := h.names.heap
  exact ⟨rfl, r1, r2, fun b cs f hx => hd.kept b _ (Ne.symm (map_ne hN hx)) (tag_ne hx h.store (by decide)) (own_ne h.row hx (by simp)) hx⟩
end

theorem sectors_maxz (q : Nat) (h : q ≤ 4194304) (w : World) : Calls Try.prog 53 #[.int .i64 (if (0 : Int) < (q : Int) then (q : Int) else 0)] w fun e w' => e = .returned (.int .i64 (((q + 511) / 512 : Nat) : Int)) ∧ w = w' := by
  have e : (if (0 : Int) < (q : Int) then (q : Int) else 0) = (q : Int) := by split <;> omega
  rw [e]
  exact sectors_any q h w
theorem sectors_maxn (q : Nat) (h : q ≤ 4194304) (w : World) : Calls Try.prog 53 #[.int .i64 (if 0 < q then (q : Int) else 0)] w fun e w' => e = .returned (.int .i64 (((q + 511) / 512 : Nat) : Int)) ∧ w = w' := by
  have e : (if 0 < q then (q : Int) else 0) = (q : Int) := by split <;> omega
  rw [e]
  exact sectors_any q h w

theorem fresh_end {w w1 w3 w4 : World} {B F N L n m k j S : Nat} {A : Fs} {tv tv' : Value} {s : ByteArray} {news : List Value} {U : Int} (h0 : Raw w B F A N L n m tv) (h1 : n ≤ k ∧ m + A.turns.length ≤ k ∧ -(4096 * (k : Int)) ≤ A.used ∧ A.used ≤ 4096 * (k : Int)) (hc : A.code = 0) (hs : NameP s) (hd : A.dir s = none)
    (hm : news.length ≤ 3000) (hn : OneB news) (hg : w.grownBy w1 (some F)) (hR : Raw w1 B F A.step N L n m tv)
    (hR3 : Raw w3 B F { ({ A.step with file := updF A.step.file w1.heap.size emptyF } : Fs) with dir := appT A.dir ⟨0, s, ⟨#[]⟩, some w1.heap.size⟩, turns := A.turns ++ [⟨0, s, ⟨#[]⟩, some w1.heap.size⟩] } N L (n + 1) m tv') (hf3 : Frm B ((w1.drewN j).alloc (.cells #[.slice none 0 0, .slice none 0 0] 85)) w3)
    (hp : PutG B w1.heap.size (.slice none 0 0) (.slice none 0 0) 0 [] news w3 w4) (hU : U = A.used + (sz news.length : Int)) : OpP B F A k (WroteR s 0 news) w (.returned (.int .i64 0)) (w4.setCell ⟨F, 1, none⟩ (.int .i64 U)) := by
  have hX : updF A.step.file w1.heap.size emptyF w1.heap.size = some emptyF := by unfold updF; rw [if_pos rfl]
  obtain ⟨⟨bv, hR4⟩, hf4⟩ := hR3.put (f := emptyF) hX hp hn (Nat.zero_le _) (by omega)
  have hR5 := hR4.turned (grown_at w4 F 1 (.int .i64 U)) { A.step with used := U, dir := appT A.dir ⟨0, s, ⟨#[]⟩, some w1.heap.size⟩, turns := A.turns ++ [⟨0, s, ⟨#[]⟩, some w1.heap.size⟩], file := updF A.step.file w1.heap.size ⟨bv, .slice none 0 0, news, []⟩ } (hb_set_same hR4.store 1 _) rfl rfl rfl (by
    show updF A.step.file w1.heap.size _ = updF (updF A.step.file w1.heap.size emptyF) w1.heap.size _
    rw [updF_twice]
    congr 1
    simp [putL, emptyF]) rfl hR4.nums
  have b1 := sz_le (show news.length ≤ 1048576 by omega)
  have hB1 : B ≤ (w1.drewN j).heap.size := Nat.le_trans hR.new.1 (Nat.le_of_lt (hb_lt hR.store))
  refine ⟨0, _, rfl, sto_mk hR5 ⟨by omega, ?_, ?_, ?_⟩, .inr ⟨rfl, hc, .inr ⟨w1.heap.size, bv, hs, hd, rfl, hR.no_file, ?_⟩⟩, ((((raw_frm h0 hg).trans (Frm.drewN B w1 j)).trans (Frm.ofBelow (below1 _ _) hB1)).trans hf3).trans (hf4.trans (Frm.ofGrown (grown_at w4 F 1 _) hR4.store (.inl rfl) hR4.new.1))⟩
  · show m + (A.turns ++ [_]).length ≤ k + 1
    rw [List.length_append]
    have := h1.2.1
    simp
    omega
  · show -(4096 * ((k + 1 : Nat) : Int)) ≤ U
    omega
  · show U ≤ 4096 * ((k + 1 : Nat) : Int)
    omega
  · rw [hU]
    rfl

set_option maxRecDepth 100000 in
set_option maxHeartbeats 4000000 in
theorem write_fresh {w : World} {B F N L n m k S q : Nat} {A : Fs} {tv : Value} (h : Raw w B F A N L n m tv) (hb : n ≤ k ∧ m + A.turns.length ≤ k ∧ -(4096 * (k : Int)) ≤ A.used ∧ A.used ≤ 4096 * (k : Int)) (hk1 : k ≤ 1000) (s : ByteArray) (hs : s.size ≤ maxLen) (at_ : Int)
    (news : List Value) (fr : Nat × Nat) (hS : w.heap[S]? = some (.cells news.toArray 5 fr)) (hq : news.length = q) (hq2 : q ≤ 3000) (hone : OneB news) (hd : A.dir s = none) :
    Calls Try.prog 25 #[.pointer (some ⟨F, 0, none⟩), .string s, .int .i64 at_, .slice (some ⟨S, 0, none⟩) q q] w (OpP B F A k (WroteR s at_.toNat news) w) := by
  have c2 := h.cells.c2
  have H := Lib.hid h
  have HB := Lib.hid hb
  have HL := Lib.hid hs
  have HD := Lib.hid hd
  have HS := Lib.hid hS
  have HQ := Lib.hid hq
  have HO := Lib.hid hone
  clear h hb hs hd hS hq hone
  by_cases hn : NameP s
  rotate_left
  · have HN := Lib.hid hn
    clear hn
    go_enter Try.func25, Try.ntmps25
    go_wp2_with (first
      | ((go_at_call 46; with_reducible refine (H.out.made).mono ?_); rintro e w' ⟨rfl, rfl⟩)
      | (at_lookup; refine wpList_nm_look _ rfl _ _ false rfl rfl H.out.names s rfl HL.out none HD.out (.pointer none) rfl ?_)
      | ((go_at_call 57; with_reducible refine (size_nil _).mono ?_); rintro e w' ⟨rfl, rfl⟩)
      | ((go_at_call 48; with_reducible refine (isName_no s _ HL.out HN.out).mono ?_); rintro e w' ⟨rfl, rfl⟩)
      | go_in)
    go_ret
    exact op_refused H.out HB.out (by decide) rfl
  have HN := Lib.hid hn
  clear hn
  by_cases hneg : at_ < 0
  · go_enter Try.func25, Try.ntmps25
    go_wp2_with (first
      | ((go_at_call 46; with_reducible refine (H.out.made).mono ?_); rintro e w' ⟨rfl, rfl⟩)
      | (at_lookup; refine wpList_nm_look _ rfl _ _ false rfl rfl H.out.names s rfl HL.out none HD.out (.pointer none) rfl ?_)
      | ((go_at_call 57; with_reducible refine (size_nil _).mono ?_); rintro e w' ⟨rfl, rfl⟩)
      | ((go_at_call 48; with_reducible refine (isName_yes s _ HN.out).mono ?_); rintro e w' ⟨rfl, rfl⟩)
      | go_in)
    go_ret
    exact op_refused H.out HB.out (by decide) rfl
  by_cases hpos : 0 < at_
  · go_enter Try.func25, Try.ntmps25
    go_wp2_with (first
      | ((go_at_call 46; with_reducible refine (H.out.made).mono ?_); rintro e w' ⟨rfl, rfl⟩)
      | (at_lookup; refine wpList_nm_look _ rfl _ _ false rfl rfl H.out.names s rfl HL.out none HD.out (.pointer none) rfl ?_)
      | ((go_at_call 57; with_reducible refine (size_nil _).mono ?_); rintro e w' ⟨rfl, rfl⟩)
      | ((go_at_call 48; with_reducible refine (isName_yes s _ HN.out).mono ?_); rintro e w' ⟨rfl, rfl⟩)
      | go_in)
    go_ret
    exact op_refused H.out HB.out (by decide) rfl
  obtain rfl : at_ = 0 := by omega
  clear hneg hpos
  by_cases hc : A.code = 0
  · have HC := Lib.hid hc
    clear hc
    go_enter Try.func25, Try.ntmps25
    go_upto_region 9 with (first
      | ((go_at_call 46; with_reducible refine (H.out.made).mono ?_); rintro e w' ⟨rfl, rfl⟩)
      | (at_lookup; refine wpList_nm_look _ rfl _ _ false rfl rfl H.out.names s rfl HL.out none HD.out (.pointer none) rfl ?_)
      | ((go_at_call 57; with_reducible refine (size_nil _).mono ?_); rintro e w' ⟨rfl, rfl⟩)
      | ((go_at_call 48; with_reducible refine (isName_yes s _ HN.out).mono ?_); rintro e w' ⟨rfl, rfl⟩)
      | ((go_at_call 44; with_reducible refine (step0 H.out HC.out).mono ?_); rintro e w1 ⟨rfl, hR, hg⟩)
      | go_in)
    have c1 : w1.cell? ⟨F, 1, none⟩ = some (.int .i64 A.used) := hR.cells.c1
    have c0 : w1.cell? ⟨F, 0, none⟩ = some (.int .i64 (A.cap : Nat)) := hR.cells.c0
    have c2b := hR.cells.c2
    have HG := Lib.hid hg
    have HR := Lib.hid hR
    have hub := HB.out.2.2
    have q1 : IntKind.i64.wrap (A.used - 0) = A.used := by rw [Int.sub_zero]; exact IntWalk.i64_in _ (by omega)
    have q2 : IntKind.i64.wrap (0 + (q : Int)) = (q : Int) := by rw [Int.zero_add]; exact IntWalk.i64_in _ (by omega)
    have q3 : IntKind.i64.wrap (A.used + (((q + 511) / 512 : Nat) : Int)) = A.used + (((q + 511) / 512 : Nat) : Int) := IntWalk.i64_in _ (by omega)
    have q4 : IntKind.i64.wrap (A.used + ((q : Int) + 511) / 512) = A.used + ((q : Int) + 511) / 512 := IntWalk.i64_in _ (by omega)
    have q5 : IntKind.i64.wrap A.used = A.used := IntWalk.i64_in _ (by omega)
    have q6 : IntKind.i64.wrap (q : Int) = (q : Int) := IntWalk.i64_in _ (by omega)
    have HUB := Lib.hid hub
    clear hg hR hub c2
    go_quiet ((first | (go_at_call 53; exact quiet_eq (sectors_zero _)) | (go_at_call 53; exact quiet_eq (sectors_maxz q (by omega) _)) | (go_at_call 53; exact quiet_eq (sectors_maxn q (by omega) _)) | (go_at_call 53; exact quiet_eq (sectors_any q (by omega) _))))
    obtain ⟨U, hU⟩ : ∃ U : Int, U = A.used + ((q : Int) + 511) / 512 := ⟨_, rfl⟩
    rw [← hU]
    have HU := Lib.hid hU
    clear hU q1 q2 q3 q4 q5 q6
    by_cases hcap : (A.cap : Int) < U
    · go_wp2
      all_goals go_ret
      all_goals exact ⟨5, A.step, rfl, (sto_mk (Raw.kept (w' := w1.drewN nq) HR.out fun _ _ h => h) HB.out).mono (Nat.le_succ _), .inl ⟨by decide, .inr rfl⟩, (raw_frm H.out HG.out).trans (Frm.drewN B w1 _)⟩
    · have hcap2 : U ≤ (A.cap : Int) := by omega
      clear hcap
      have hS1 : w1.heap[S]? = some (.cells news.toArray 5 fr) := hb_grown HS.out HG.out (fun e => tag_ne HS.out H.out.store (by decide) (Option.some.inj e))
      have hRa : Raw ((w1.drewN nq).alloc (.cells #[.slice none 0 0, .slice none 0 0] 85)) B F { A.step with file := updF A.step.file w1.heap.size emptyF } N L n m tv := (Raw.kept (w' := w1.drewN nq) HR.out fun _ _ h => h).newfile
      have hdo := do_comesF hRa s HN.out w1.heap.size (by show (updF A.step.file w1.heap.size emptyF w1.heap.size).isSome = true; unfold updF; rw [if_pos rfl]; rfl) (show n < maxLen by have := HB.out.1; unfold maxLen; omega) (show A.turns.length ≤ 1000000 by have := HB.out.2.1; omega)
      have hS2 : ((w1.drewN nq).alloc (.cells #[.slice none 0 0, .slice none 0 0] 85)).heap[S]? = some (.cells news.toArray 5 fr) := hb_alloc (w := w1.drewN nq) hS1 _
      have HDO := Lib.hid hdo
      have HS2 := Lib.hid hS2
      have hnm : ∀ j, NameMap (w1.drewN j) N n A.dir := fun j => HR.out.names.kept fun _ h => h
      have HNM := Lib.hid hnm
      clear hS1 hRa hdo hS2 hnm
      go_upto_region 14 with (first
        | (at_lookup; refine wpList_nm_look (o := ⟨some 75, _, _, _, _, _⟩) _ rfl _ _ true rfl rfl (HNM.out _) s rfl HL.out none HD.out (.tuple #[.pointer none, .bool false]) rfl ?_)
        | go_in)
      go_upto_region 15 with (first
        | ((go_at_call 58; refine (HDO.out).mono ?_); rintro e w3 ⟨rfl, ⟨tv', hR3⟩, hf3, hS3⟩)
        | go_in)
      have hS3' := hS3 S _ fr HS2.out
      have hX3 := hR3.files w1.heap.size emptyF (by show updF A.step.file w1.heap.size emptyF w1.heap.size = some emptyF; unfold updF; rw [if_pos rfl])
      have hB3 : B ≤ w3.heap.size := Nat.le_trans hR3.new.1 (Nat.le_of_lt (hb_lt hR3.store))
      have hput := put_all B w1.heap.size S 0 q (.slice none 0 0) (.slice none 0 0) [] news fr w3 hX3.block (World.ownsRow_nil _ _ _ _) hB3 (by simp [Value.ownBlock]) (Nat.zero_le _) HQ.out hq2 (Nat.zero_le _) hS3' HO.out.cells
      have hnm3 : NameMap w3 N (n + 1) (appT A.dir ⟨0, s, ⟨#[]⟩, some w1.heap.size⟩) := hR3.names
      have hlk3 : appT A.dir ⟨0, s, ⟨#[]⟩, some w1.heap.size⟩ s = some w1.heap.size := by
        show upN A.dir s (some w1.heap.size) s = _
        unfold upN
        rw [if_pos rfl]
      have c23 := hR3.cells.c2
      have HPUT := Lib.hid hput
      have HNM3 := Lib.hid hnm3
      have HLK3 := Lib.hid hlk3
      have HX3 := Lib.hid hX3
      have HR3 := Lib.hid hR3
      have HF3 := Lib.hid hf3
      clear hput hnm3 hlk3 hX3 hR3 hf3 hS3 hS3' hB3
      go_upto_region 16 with (first
        | (at_lookup; refine wpList_nm_look (o := ⟨some 91, _, _, _, _, _⟩) _ rfl _ _ false rfl rfl HNM3.out s rfl HL.out (some w1.heap.size) HLK3.out (.pointer (some ⟨w1.heap.size, 0, none⟩)) rfl ?_)
        | ((go_at_call 59; refine (HPUT.out).mono ?_); rintro e w4 ⟨rfl, hP⟩)
        | go_in)
      have hF4 := hP.kept F _ (tag_ne HR3.out.store HX3.out.block (by decide)) (by simp [Value.ownBlock]) HR3.out.store
      have e1 : w4.cell? ⟨F, 1, none⟩ = some (.int .i64 A.step.used) := hb_at hF4 1 rfl
      have e2 := hb_free hF4 1
      have HP := Lib.hid hP
      clear hF4 hP
      go_wp2
      all_goals go_ret
      all_goals
        refine fresh_end (S := S) H.out HB.out HC.out HN.out HD.out (by rw [HQ.out]; exact hq2) HO.out HG.out HR.out HR3.out HF3.out HP.out ?_
        rw [HU.out, HQ.out]
        unfold sz
        omega
  · obtain ⟨cd, hcd⟩ : ∃ cd, A.code = cd := ⟨_, rfl⟩
    rw [hcd] at hc
    have n1 : (cd == 0) = false := by simpa using hc
    have n2 : (cd != 0) = true := by simpa using hc
    have HC := Lib.hid hc
    have HCD := Lib.hid hcd
    clear hc hcd
    go_enter Try.func25, Try.ntmps25
    go_wp2_with (first
      | ((go_at_call 46; with_reducible refine (H.out.made).mono ?_); rintro e w' ⟨rfl, rfl⟩)
      | (at_lookup; refine wpList_nm_look _ rfl _ _ false rfl rfl H.out.names s rfl HL.out none HD.out (.pointer none) rfl ?_)
      | ((go_at_call 57; with_reducible refine (size_nil _).mono ?_); rintro e w' ⟨rfl, rfl⟩)
      | ((go_at_call 48; with_reducible refine (isName_yes s _ HN.out).mono ?_); rintro e w' ⟨rfl, rfl⟩)
      | ((go_at_call 44; with_reducible refine (step1 H.out cd HCD.out).mono ?_); rintro e w1 ⟨rfl, hR, hg⟩)
      | go_in)
    go_ret
    exact op_stepped H.out hR hg HB.out HC.out rfl
end Go.Proofs.Ytmfphnhdahaooaa
