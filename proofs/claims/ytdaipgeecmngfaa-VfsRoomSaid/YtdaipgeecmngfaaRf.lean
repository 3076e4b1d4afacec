/- As the texts before, with where the row of the turns lies behind the call. -/
import Derived.Test.YtdaipgeecmngfaaRd
namespace Go.Proofs.Ytdaipgeecmngfaa
open Go.RowKit Go.Maps

structure Did2 (F N L : Nat) (cap used : Int) (tv : Value) (n : Nat) (ts : List Value) (s tn : ByteArray) (X : Nat) (es : Array MapEntry) (clock : Nat) (w w' : World) : Prop where
  own : ∃ tv', w'.heap[F]? = some (.cells (fsCells cap used N L tv') 82 (0, 0)) ∧ w'.ownsRow 0 87 4 tv' (n + 1) (ts ++ turnCells s tn X) ∧ (tv'.ownBlock = tv.ownBlock ∨ ∃ g, tv'.ownBlock = some g ∧ w.heap.size ≤ g)
  map : w'.heap[N]? = some (.map (es.push ⟨.string s, .pointer (some ⟨X, 0, none⟩), clock⟩) (clock + 1))
  size : w.heap.size ≤ w'.heap.size
  rest : w'.os = w.os ∧ w'.tape = w.tape ∧ w'.output = w.output
  kept : ∀ k x, k ≠ N → k ≠ F → some k ≠ tv.ownBlock → w.heap[k]? = some x → w'.heap[k]? = some x

set_option maxHeartbeats 1000000 in
theorem do_comes2 (F N L X : Nat) (cap used : Int) (tv : Value) (n : Nat) (ts : List Value) (s tn : ByteArray) (es : Array MapEntry) (clock : Nat) (w : World)
    (hF : w.heap[F]? = some (.cells (fsCells cap used N L tv) 82 (0, 0))) (hN : w.heap[N]? = some (.map es clock)) (hT : w.ownsRow 0 87 4 tv n ts) (hn : n ≤ 1000000)
    (hf : ∀ w, (Instr.findKey 9 (.string s) es.toList).run Try.prog w = .ok none w) :
    Calls Try.prog 58 #[.pointer (some ⟨F, 0, none⟩), .agg #[.int .i64 0, .string s, .string tn, .pointer (some ⟨X, 0, none⟩)]] w fun e w' => e = .returned (.tuple #[]) ∧ Did2 F N L cap used tv n ts s tn X es clock w w' := by
  have c2 : w.cell? ⟨F, 2, none⟩ = some (.map (some N)) := by rw [hb_cell hF]; rfl
  have hFl := hb_lt hF
  have hne : F ≠ N := fun e => by subst e; rw [hF] at hN; cases hN
  go_enter Try.func58, Try.ntmps58
  go_upto_region 1 with fail
  go_cut [9] (fun _ wx => wx.heap[N]? = some (.map (es.push ⟨.string s, .pointer (some ⟨X, 0, none⟩), clock⟩) (clock + 1)) ∧ (w.alloc (.cells (turnCells s tn X).toArray 87)).grownBy wx (some N))
  case first =>
    go_region_with (go_at_call 47; refine (change_comes s tn X N es clock _ (by first | exact hb_alloc hN _) hf).mono ?_; rintro e w1 ⟨rfl, hN1, hg1⟩)
    all_goals (go_wp2_with fail; go_meet; exact ⟨hN1, grown_undrew hg1⟩)
  case rest =>
    obtain ⟨hN1, hg1⟩ := hcut
    obtain ⟨i0, hi, hz0, hz1, hz2⟩ := info_parts info87
    have hF1 := hb_grown (hb_alloc hF _) hg1 (by simpa using hne)
    have hB1 := hb_grown (heap_alloc_new w (.cells (turnCells s tn X).toArray 87)) hg1 (by have := hb_lt hN; simp; omega)
    have hT1 := (hT.alloc (.cells (turnCells s tn X).toArray 87)).kept hg1 (by
      have := own_ne hT hN (by simp)
      exact .inr (fun e => this e.symm))
    have c4 : wc.cell? ⟨F, 4, none⟩ = some tv := by rw [hb_cell hF1]; rfl
    have b0 : wc.cell? ⟨w.heap.size, 0, none⟩ = some (.int .i64 0) := by rw [hb_cell hB1]; rfl
    have b1 : wc.cell? ⟨w.heap.size, 1, none⟩ = some (.string s) := by rw [hb_cell hB1]; rfl
    have b2 : wc.cell? ⟨w.heap.size, 2, none⟩ = some (.string tn) := by rw [hb_cell hB1]; rfl
    have b3 : wc.cell? ⟨w.heap.size, 3, none⟩ = some (.pointer (some ⟨X, 0, none⟩)) := by rw [hb_cell hB1]; rfl
    have c4a : ∀ o, (wc.alloc o).cell? ⟨F, 4, none⟩ = some tv := fun o => hb_at (hb_alloc hF1 o) 4 rfl
    have hneT : some F ≠ tv.ownBlock := own_ne hT hF (by simp)
    go_wp2_with fail
    go_region_law (refine step_append_lies _ rfl (.tmp 14) (.tmp 16) 80 rfl 0 87 i0 _ 4 48 Try.underlying80 hi hz0 hz1 hz2 rfl (by decide) tv n ts (by simp [Act.eval, Act.put]) (hT1.alloc _) ⟨wc.heap.size, 0, none⟩ 1 1 (turnCells s tn X) (by simp [Act.eval, Act.put]) rfl (new_cells _ _ _ _ rfl) (by simp [turnCells, Value.oneCell']) (by decide) (by unfold maxLen; omega) (by omega) (Nat.zero_le _) _ rfl ?_; intro g cap' w2 hown2 hg2 hat2 hlt2; have hF2 := hb_grown (hb_alloc (w := wc.drew) hF1 _) hg2 hneT; have c42 : w2.cell? ⟨F, 4, none⟩ = some tv := hb_at hF2 4 rfl; have f42 := hb_free hF2 4)
    all_goals
      go_wp2_with fail
      go_end0
      exact ⟨rfl, ⟨_, hb_set_same hF2 4 _, hown2.kept (grown_set _ _ _) (.inr fun e => own_ne hown2 hF2 (by simp) e.symm), hat2.elim (fun h => .inl h.symm) (fun h => .inr ⟨g, rfl, by have e1 := hg1.size; simp at e1 h; omega⟩)⟩,
        hb_set_other (hb_grown (hb_alloc (w := wc.drew) hN1 _) hg2 (own_ne hT hN (by simp))) _ (Ne.symm hne),
        by have e1 := hg1.size; have e2 := hg2.size; have e3 := (grown_set w2 ⟨F, 4, none⟩ (.slice (some ⟨g, 0, none⟩) (n + 1) cap')).size; simp at e1 e2; omega,
        ⟨hg2.os.trans hg1.os, hg2.tape.trans hg1.tape, hg2.output.trans hg1.output⟩,
        fun k x hkN hkF hkT h => hb_set_other (hb_grown (hb_alloc (w := wc.drew) (hb_grown (w' := wc) (hb_alloc h _) hg1 (fun e => hkN (Option.some.inj e))) _) hg2 hkT) _ hkF⟩

structure Wrote2 (F N L : Nat) (cap used : Nat) (tv : Value) (n : Nat) (ts : List Value) (s : ByteArray) (es : Array MapEntry) (clock : Nat) (news : List Value) (w w' : World) : Prop where
  all : ∃ X bv tv' g, w'.heap[F]? = some (.cells (fsCells cap (used + (news.length + 511) / 512 : Nat) N L tv') 82 (0, 0)) ∧ w'.ownsRow 0 87 4 tv' (n + 1) (ts ++ turnCells s ⟨#[]⟩ X) ∧
    w'.heap[N]? = some (.map (es.push ⟨.string s, .pointer (some ⟨X, 0, none⟩), clock⟩) (clock + 1)) ∧ w'.heap[X]? = some (.cells #[bv, .slice none 0 0] 85 (0, 0)) ∧
    w'.ownsRow 0 5 1 bv news.length news ∧ w.heap.size ≤ X ∧ bv.ownBlock = some g ∧ w.heap.size ≤ g ∧ (tv'.ownBlock = tv.ownBlock ∨ ∃ g, tv'.ownBlock = some g ∧ w.heap.size ≤ g)
  size : w.heap.size ≤ w'.heap.size
  rest : w'.os = w.os ∧ w'.tape = w.tape ∧ w'.output = w.output
  kept : ∀ j x, j ≠ N → j ≠ F → some j ≠ tv.ownBlock → w.heap[j]? = some x → w'.heap[j]? = some x

set_option maxRecDepth 100000 in
set_option maxHeartbeats 2000000 in
theorem write_new2 (F N L S c cap used : Nat) (tv : Value) (n : Nat) (ts : List Value) (s : ByteArray) (es : Array MapEntry) (clock : Nat) (news : List Value) (fr : Nat × Nat) (w : World)
    (hF : w.heap[F]? = some (.cells (fsCells cap used N L tv) 82 (0, 0))) (hN : w.heap[N]? = some (.map es clock)) (hT : w.ownsRow 0 87 4 tv n ts) (hn : n ≤ 1000000)
    (hS : w.heap[S]? = some (.cells news.toArray 5 fr)) (hk : 0 < news.length) (hkc : news.length ≤ c) (hk3 : news.length ≤ 3000) (hone : ∀ u ∈ news, u.oneCell' = true)
    (hs1 : 1 ≤ s.size) (hs2 : s.size ≤ 30) (hs : ∀ (k : Nat) (hk : k < s.size), NameB s[k])
    (hc0 : 0 < cap) (hc1 : cap ≤ 4096) (hu : used + (news.length + 511) / 512 ≤ cap)
    (hf : ∀ w, (Instr.findKey 9 (.string s) es.toList).run Try.prog w = .ok none w)
    (hf2 : ∀ X w, (Instr.findKey 9 (.string s) (es.push ⟨.string s, .pointer (some ⟨X, 0, none⟩), clock⟩).toList).run Try.prog w = .ok (some (es.size, .pointer (some ⟨X, 0, none⟩))) w) :
    Calls Try.prog 25 #[.pointer (some ⟨F, 0, none⟩), .string s, .int .i64 0, .slice (some ⟨S, 0, none⟩) news.length c] w fun e w' => e = .returned (.int .i64 0) ∧ Wrote2 F N L cap used tv n ts s es clock news w w' := by
  have c0 : w.cell? ⟨F, 0, none⟩ = some (.int .i64 cap) := hb_at hF 0 rfl
  have c1 : w.cell? ⟨F, 1, none⟩ = some (.int .i64 used) := hb_at hF 1 rfl
  have c2 : w.cell? ⟨F, 2, none⟩ = some (.map (some N)) := hb_at hF 2 rfl
  have st := fun w1 (h : w1.heap = w.heap) => step_ok F w1 (by rw [World.cell?, h]; exact hb_at hF 5 rfl) (by rw [World.cell?, h]; exact hb_at hF 6 rfl) (by rw [World.cell?, h]; exact hb_at hF 7 rfl) (by rw [World.frozen?, h]; exact hb_free hF 5) (by rw [World.frozen?, h]; exact hb_free hF 6) (by rw [World.frozen?, h]; exact hb_free hF 7)
  have Hst := Lib.hid st
  have Hs := Lib.hid hs
  have Hf := Lib.hid hf
  have Hf2 := Lib.hid hf2
  have Ho := Lib.hid hone
  have Hn := Lib.hid hN
  have HF := Lib.hid hF
  have HS := Lib.hid hS
  clear st hs hf hf2 hone hN hF hS
  obtain ⟨k, hkk⟩ : ∃ k, k = news.length := ⟨_, rfl⟩
  have Hk := Lib.hid hkk
  rw [← hkk] at hk hkc hk3 hu ⊢
  clear hkk
  have q1 : IntKind.i64.wrap ((used : Int) - 0) = used := IntWalk.i64_in _ (by omega)
  have q2 : IntKind.i64.wrap (0 + (k : Int)) = k := by rw [Int.zero_add]; exact IntWalk.i64_in _ (by omega)
  have q3 : IntKind.i64.wrap ((used : Int) + (((k + 511) / 512 : Nat) : Int)) = ((used + (k + 511) / 512 : Nat) : Int) := by rw [IntWalk.i64_in _ (by omega)]; omega
  have Q1 := Lib.hid q1
  have Q2 := Lib.hid q2
  have Q3 := Lib.hid q3
  clear q1 q2 q3
  go_enter Try.func25, Try.ntmps25
  go_wp2_with (first
    | (go_at_call 46; refine (made_yes F cap hc0 _ (by assumption)).mono ?_; rintro e w' ⟨rfl, rfl⟩)
    | (at_lookup; refine wpList_look_raw _ rfl _ _ 79 false rfl 9 78 Try.underlying79 N es clock rfl Hn.out _ rfl (ck9 _ _ _) none (Hf.out _) _ (zero78 _) (.pointer none) rfl ?_)
    | (go_at_call 57; refine (size_nil _).mono ?_; rintro e w' ⟨rfl, rfl⟩)
    | (go_at_call 48; refine (isName_ok s _ hs1 hs2 Hs.out).mono ?_; rintro e w' ⟨rfl, rfl⟩)
    | (go_at_call 44; refine (Hst.out _ rfl).mono ?_; rintro e w' ⟨rfl, n1, rfl⟩)
    | go_in)
  have q1 := Q1.out
  have q2 := Q2.out
  have q3 := Q3.out
  go_quiet ((first | (go_at_call 53; exact quiet_sum (sectors_zero _)) | (go_at_call 53; exact quiet_sum (sectors_any k (by omega) _))))
  clear q1 q2 q3
  have hd1 : (decide ((cap : Int) < ((used + (k + 511) / 512 : Nat) : Int))) = false := by simp; omega
  go_upto_region 15 with (first
    | (at_lookup; refine wpList_look_raw _ rfl _ _ 79 true rfl 9 78 Try.underlying79 N es clock rfl Hn.out _ rfl (ck9 _ _ _) none (Hf.out _) _ (zero78 _) (.tuple #[.pointer none, .bool false]) rfl ?_)
    | (go_at_call 58; refine (do_comes2 F N L w.heap.size cap used tv n ts s ⟨#[]⟩ es clock _ (hb_alloc (hb_drewN HF.out _) _) (hb_alloc (hb_drewN Hn.out _) _) ((own_drewN hT _).alloc _) hn Hf.out).mono ?_; rintro e w1 ⟨rfl, hD⟩)
    | go_in)
  have Hw1 := Lib.hid hD
  clear hD
  obtain ⟨tv1, hF1, hT1, hloc⟩ := Hw1.out.own
  have HLoc := Lib.hid hloc
  clear hloc
  have hnN : N < w.heap.size := hb_lt Hn.out
  have hnF : F < w.heap.size := hb_lt HF.out
  have hX1 := Hw1.out.kept w.heap.size _ (by omega) (by omega) (by
    intro e
    have := (hT.lt _ e.symm).2
    omega) (heap_alloc_new (w.drewN _) _)
  have hS1 := Hw1.out.kept S _ (fun e => by subst e; have h1 := HS.out; have h2 := Hn.out; rw [h1] at h2; cases h2)
    (fun e => by subst e; have h1 := HS.out; have h2 := HF.out; rw [h1] at h2; cases h2) (own_ne hT HS.out (by simp)) (hb_alloc (hb_drewN HS.out _) _)
  have hN1 := Hw1.out.map
  have d2 : w1.cell? ⟨F, 2, none⟩ = some (.map (some N)) := hb_at hF1 2 rfl
  have HF1 := Lib.hid hF1
  have HT1 := Lib.hid hT1
  have HX1 := Lib.hid hX1
  have HS1 := Lib.hid hS1
  have HN1 := Lib.hid hN1
  clear hF1 hT1 hX1 hS1 hN1 hnN hnF
  go_upto_region 16 with (first
    | (at_lookup; refine wpList_look_raw _ rfl _ _ 79 false rfl 9 78 Try.underlying79 N _ _ rfl HN1.out _ rfl (ck9 _ _ _) _ (Hf2.out _ _) _ (zero78 _) (.pointer (some ⟨w.heap.size, 0, none⟩)) rfl ?_)
    | (go_at_call 59; refine (put_nil w.heap.size S c k _ news w1 HX1.out hk hkc (by omega) (by have := Hk.out; omega) (by intro j u hj; rw [hb_cell_add HS1.out]; simpa using hj) Ho.out).mono ?_; rintro e w2 ⟨rfl, hP⟩)
    | go_in)
  have HP := Lib.hid hP
  clear hP
  obtain ⟨bv, hX2, hB2, hbv⟩ := HP.out.own
  have hlN := hb_lt Hn.out
  have hlF := hb_lt HF.out
  have hF2 := HP.out.kept F _ (by omega) (by simp [Value.ownBlock]) HF1.out
  have hN2 := HP.out.kept N _ (by omega) (by simp [Value.ownBlock]) HN1.out
  have hT2 := own_kept HT1.out (fun g x hg hx => HP.out.kept g x (fun e => own_ne HT1.out HX1.out (by simp) (by rw [hg, e])) (by simp [Value.ownBlock]) hx)
  have e1 : w2.cell? ⟨F, 1, none⟩ = some (.int .i64 used) := hb_at hF2 1 rfl
  have e2 := hb_free hF2 1
  obtain ⟨g, hg, hgl⟩ : ∃ g, bv.ownBlock = some g ∧ w1.heap.size ≤ g := by
    rcases hbv with h | h
    · obtain ⟨g, cp, hv, _⟩ := hB2.form (by omega)
      rw [hv] at h
      cases h
    · exact h
  have h5 : w.heap.size + 1 ≤ w1.heap.size := by have h := Hw1.out.size; simp at h; exact h
  have h6 := HP.out.size
  have HX2 := Lib.hid hX2
  have HB2 := Lib.hid hB2
  have HF2 := Lib.hid hF2
  have HN2 := Lib.hid hN2
  have HT2 := Lib.hid hT2
  have Hg := Lib.hid hg
  clear hX2 hB2 hF2 hN2 hT2 hg
  go_wp2
  go_ret
  have e3 : ((used : Int) + ((k : Int) + 511) / 512) = ((used + (news.length + 511) / 512 : Nat) : Int) := by rw [← Hk.out]; omega
  have h7 : w2.heap.size ≤ (w2.setCell ⟨F, 1, none⟩ (.int .i64 (used + (k + 511) / 512))).heap.size := (grown_set _ _ _).size
  refine ⟨rfl, ⟨w.heap.size, bv, tv1, g, ?_, ?_, ?_, ?_, ?_, Nat.le_refl _, Hg.out, by omega, HLoc.out.elim .inl (fun ⟨g2, h1, h2⟩ => .inr ⟨g2, h1, by simp at h2; omega⟩)⟩, by omega, ⟨HP.out.rest.1.trans Hw1.out.rest.1, HP.out.rest.2.1.trans Hw1.out.rest.2.1, HP.out.rest.2.2.trans Hw1.out.rest.2.2⟩, ?_⟩
  · rw [← e3]
    exact hb_set_same HF2.out 1 _
  · exact HT2.out.kept (grown_set _ _ _) (.inr fun e => own_ne HT2.out HF2.out (by simp) e.symm)
  · exact hb_set_other HN2.out _ (fun e => by have h1 := HN2.out; have h2 := HF2.out; rw [e, h2] at h1; cases h1)
  · exact hb_set_other HX2.out _ (by simp; omega)
  · rw [← Hk.out]
    have h := HB2.out
    rw [Nat.zero_add, List.nil_append] at h
    exact h.kept (grown_set _ _ _) (.inr fun e => own_ne h HF2.out (by simp) e.symm)
  · intro j x hjN hjF hjT h
    have hl := hb_lt h
    exact hb_set_other (HP.out.kept j x (by omega) (by simp [Value.ownBlock]) (Hw1.out.kept j x hjN hjF hjT (hb_alloc (hb_drewN h _) _))) _ hjF

structure Wrote02 (F N L : Nat) (cap used : Nat) (tv : Value) (n : Nat) (ts : List Value) (s : ByteArray) (es : Array MapEntry) (clock : Nat) (w w' : World) : Prop where
  all : ∃ X tv', w'.heap[F]? = some (.cells (fsCells cap used N L tv') 82 (0, 0)) ∧ w'.ownsRow 0 87 4 tv' (n + 1) (ts ++ turnCells s ⟨#[]⟩ X) ∧
    w'.heap[N]? = some (.map (es.push ⟨.string s, .pointer (some ⟨X, 0, none⟩), clock⟩) (clock + 1)) ∧ w'.heap[X]? = some (.cells #[.slice none 0 0, .slice none 0 0] 85 (0, 0)) ∧ w.heap.size ≤ X ∧ (tv'.ownBlock = tv.ownBlock ∨ ∃ g, tv'.ownBlock = some g ∧ w.heap.size ≤ g)
  size : w.heap.size ≤ w'.heap.size
  rest : w'.os = w.os ∧ w'.tape = w.tape ∧ w'.output = w.output
  kept : ∀ j x, j ≠ N → j ≠ F → some j ≠ tv.ownBlock → w.heap[j]? = some x → w'.heap[j]? = some x

set_option maxRecDepth 100000 in
set_option maxHeartbeats 2000000 in
theorem write_new02 (F N L S c cap used : Nat) (tv : Value) (n : Nat) (ts : List Value) (s : ByteArray) (es : Array MapEntry) (clock : Nat) (w : World)
    (hF : w.heap[F]? = some (.cells (fsCells cap used N L tv) 82 (0, 0))) (hN : w.heap[N]? = some (.map es clock)) (hT : w.ownsRow 0 87 4 tv n ts) (hn : n ≤ 1000000)
    (hs1 : 1 ≤ s.size) (hs2 : s.size ≤ 30) (hs : ∀ (k : Nat) (hk : k < s.size), NameB s[k])
    (hc0 : 0 < cap) (hc1 : cap ≤ 4096) (hu : used ≤ cap) (hf : Finds es s none) :
    Calls Try.prog 25 #[.pointer (some ⟨F, 0, none⟩), .string s, .int .i64 0, .slice (some ⟨S, 0, none⟩) 0 c] w fun e w' => e = .returned (.int .i64 0) ∧ Wrote02 F N L cap used tv n ts s es clock w w' := by
  have c0 : w.cell? ⟨F, 0, none⟩ = some (.int .i64 cap) := hb_at hF 0 rfl
  have c1 : w.cell? ⟨F, 1, none⟩ = some (.int .i64 used) := hb_at hF 1 rfl
  have c2 : w.cell? ⟨F, 2, none⟩ = some (.map (some N)) := hb_at hF 2 rfl
  have st := fun w1 (h : w1.heap = w.heap) => step_ok F w1 (by rw [World.cell?, h]; exact hb_at hF 5 rfl) (by rw [World.cell?, h]; exact hb_at hF 6 rfl) (by rw [World.cell?, h]; exact hb_at hF 7 rfl) (by rw [World.frozen?, h]; exact hb_free hF 5) (by rw [World.frozen?, h]; exact hb_free hF 6) (by rw [World.frozen?, h]; exact hb_free hF 7)
  have Hst := Lib.hid st
  have Hs := Lib.hid hs
  have Hf := Lib.hid hf
  have Hf2 := Lib.hid (fun X => hf.push_same (.pointer (some ⟨X, 0, none⟩)) clock)
  have Hn := Lib.hid hN
  have HF := Lib.hid hF
  clear st hs hf hN hF
  have q1 : IntKind.i64.wrap ((used : Int) - 0) = used := IntWalk.i64_in _ (by omega)
  have q2 : IntKind.i64.wrap 0 = 0 := IntWalk.i64_in _ (by omega)
  have q3 : IntKind.i64.wrap (used : Int) = used := IntWalk.i64_in _ (by omega)
  have Q1 := Lib.hid q1
  have Q2 := Lib.hid q2
  have Q3 := Lib.hid q3
  clear q1 q2 q3
  go_enter Try.func25, Try.ntmps25
  go_wp2_with (first
    | (go_at_call 46; refine (made_yes F cap hc0 _ (by assumption)).mono ?_; rintro e w' ⟨rfl, rfl⟩)
    | (at_lookup; refine wpList_look_raw _ rfl _ _ 79 false rfl 9 78 Try.underlying79 N es clock rfl Hn.out _ rfl (ck9 _ _ _) none (Hf.out.run _) _ (zero78 _) (.pointer none) rfl ?_)
    | (go_at_call 57; refine (size_nil _).mono ?_; rintro e w' ⟨rfl, rfl⟩)
    | (go_at_call 48; refine (isName_ok s _ hs1 hs2 Hs.out).mono ?_; rintro e w' ⟨rfl, rfl⟩)
    | (go_at_call 44; refine (Hst.out _ rfl).mono ?_; rintro e w' ⟨rfl, n1, rfl⟩)
    | go_in)
  have q1 := Q1.out
  have q2 := Q2.out
  have q3 := Q3.out
  go_quiet ((go_at_call 53; exact quiet_sum (sectors_zero _)))
  clear q1 q2 q3
  have hd2 : (used : Int) ≤ (cap : Int) := by omega
  go_upto_region 15 with (first
    | (at_lookup; refine wpList_look_raw _ rfl _ _ 79 true rfl 9 78 Try.underlying79 N es clock rfl Hn.out _ rfl (ck9 _ _ _) none (Hf.out.run _) _ (zero78 _) (.tuple #[.pointer none, .bool false]) rfl ?_)
    | (go_at_call 58; refine (do_comes2 F N L w.heap.size cap used tv n ts s ⟨#[]⟩ es clock _ (hb_alloc (hb_drewN HF.out _) _) (hb_alloc (hb_drewN Hn.out _) _) ((own_drewN hT _).alloc _) hn Hf.out.run).mono ?_; rintro e w1 ⟨rfl, hD⟩)
    | go_in)
  have Hw1 := Lib.hid hD
  clear hD
  obtain ⟨tv1, hF1, hT1, hloc⟩ := Hw1.out.own
  have HLoc := Lib.hid hloc
  clear hloc
  have hnN : N < w.heap.size := hb_lt Hn.out
  have hnF : F < w.heap.size := hb_lt HF.out
  have hX1 := Hw1.out.kept w.heap.size _ (by omega) (by omega) (by
    intro e
    have := (hT.lt _ e.symm).2
    omega) (heap_alloc_new (w.drewN _) _)
  have hN1 := Hw1.out.map
  have d2 : w1.cell? ⟨F, 2, none⟩ = some (.map (some N)) := hb_at hF1 2 rfl
  have HF1 := Lib.hid hF1
  have HT1 := Lib.hid hT1
  have HX1 := Lib.hid hX1
  have HN1 := Lib.hid hN1
  clear hF1 hT1 hX1 hN1 hnN hnF
  go_upto_region 16 with (first
    | (at_lookup; refine wpList_look_raw _ rfl _ _ 79 false rfl 9 78 Try.underlying79 N _ _ rfl HN1.out _ rfl (ck9 _ _ _) _ ((Hf2.out _).run _) _ (zero78 _) (.pointer (some ⟨w.heap.size, 0, none⟩)) rfl ?_)
    | (go_at_call 59; refine (put_quiet w.heap.size S c _ w1 HX1.out).mono ?_; rintro e w2 ⟨rfl, rfl⟩)
    | go_in)
  have e1 : w1.cell? ⟨F, 1, none⟩ = some (.int .i64 used) := hb_at HF1.out 1 rfl
  have e2 := hb_free HF1.out 1
  go_wp2
  go_ret
  have h7 := (grown_set w1 ⟨F, 1, none⟩ (.int .i64 used)).size
  have h6 := Hw1.out.size
  simp at h6
  have e3 : w1.setCell ⟨F, 1, none⟩ (.int .i64 used) = w1 := setCell_id e1
  rw [e3]
  exact ⟨rfl, ⟨w.heap.size, tv1, HF1.out, HT1.out, HN1.out, HX1.out, Nat.le_refl _, HLoc.out.elim .inl (fun ⟨g2, h1, h2⟩ => .inr ⟨g2, h1, by simp at h2; omega⟩)⟩, by show w.heap.size ≤ w1.heap.size; omega, Hw1.out.rest, fun j x hjN hjF hjT h => Hw1.out.kept j x hjN hjF hjT (hb_alloc (hb_drewN h _) _)⟩
end Go.Proofs.Ytdaipgeecmngfaa
