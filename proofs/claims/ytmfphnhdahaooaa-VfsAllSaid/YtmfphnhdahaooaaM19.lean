/- The texts Vn, one behind the other. -/
import Derived.Test.YtmfphnhdahaooaaM10
import Derived.Test.YtmfphnhdahaooaaM06
import Derived.Deep.DeepCutAuto
set_option linter.unusedSimpArgs false
set_option linter.unusedVariables false
/- A crash of a store with one file, which was never synced: with its turn its name is left, without bytes. -/
namespace Go.Proofs.Ytmfphnhdahaooaa
open Go.RowKit Go.Maps

structure Left1 (F2 cap used : Nat) (s : ByteArray) (v1 v2 : Value) (w w' : World) : Prop where
  all : ∃ N2 L2 X2, w'.heap[F2]? = some (.cells (fsCells cap used N2 L2 (.slice none 0 0)) 82 (0, 0)) ∧ w'.heap[N2]? = some (.map #[⟨.string s, .pointer (some ⟨X2, 0, none⟩), 0⟩] 1) ∧ w'.heap[X2]? = some (.cells #[v1, v2] 85 (0, 0))
  below : Below w.heap.size w w'

set_option maxRecDepth 100000 in
set_option maxHeartbeats 2000000 in
theorem crash_one (F N L T c X lc cap used K d : Nat) (bv : Value) (s tn : ByteArray) (cur : Array Value) (w : World) (hO : One F N L T c X lc cap used s tn cur w) (hc : 0 < cap) (hX : w.heap[X]? = some (.cells #[bv, .slice none 0 0] 85 (0, 0))) (hK : w.heap[K]? = some (.cells #[.int .i64 0] 3 (0, 0))) :
    Calls Try.prog 20 #[.pointer (some ⟨F, 0, none⟩), .slice (some ⟨K, 0, none⟩) 1 d, .slice none 0 0] w fun e w' => ∃ F2, e = .returned (.pointer (some ⟨F2, 0, none⟩)) ∧ Left1 F2 cap 0 s (.slice none 0 0) (.slice none 0 0) w w' := by
  have c0 : w.cell? ⟨F, 0, none⟩ = some (.int .i64 cap) := hb_at hO.store 0 rfl
  have HO := Lib.hid hO
  have HX := Lib.hid hX
  have HK := Lib.hid hK
  clear hO hX hK
  go_enter Try.func20, Try.ntmps20
  go_upto_region 3 with (first
    | (go_at_call 46; refine (made_yes F cap hc _ (by assumption)).mono ?_; rintro e w' ⟨rfl, rfl⟩)
    | go_in)
  go_upto_region 4 with (first
    | (go_at_call 49; refine (firsts_nil _).mono ?_; rintro e w1 ⟨rfl, h1⟩)
    | go_in)
  have HO1 := Lib.hid (HO.out.below h1.below)
  have HM1 := Lib.hid h1.map
  have HB1 := Lib.hid h1.below
  have c1 : w1.cell? ⟨F, 0, none⟩ = some (.int .i64 cap) := hb_at HO1.out.store 0 rfl
  have HX1 := Lib.hid (hb_below HX.out h1.below (hb_lt HX.out))
  have HK1 := Lib.hid (hb_below HK.out h1.below (hb_lt HK.out))
  clear h1
  go_upto_region 5 with (first
    | (go_at_call 50; refine (kept_empty _ 0 _ HM1.out).mono ?_; rintro e w2 ⟨rfl, h2⟩)
    | go_in)
  have HO2 := Lib.hid (HO1.out.below h2.below)
  have HB2 := Lib.hid h2.below
  have c2 : w2.cell? ⟨F, 0, none⟩ = some (.int .i64 cap) := hb_at HO2.out.store 0 rfl
  have HX2 := Lib.hid (hb_below HX1.out h2.below (hb_lt HX1.out))
  have HK2 := Lib.hid (hb_below HK1.out h2.below (hb_lt HK1.out))
  have HM2 := Lib.hid (hb_below HM1.out h2.below (hb_lt HM1.out))
  clear h2
  go_upto_region 6 with (first
    | (go_at_call 32; refine (empty_ok cap _).mono ?_; rintro e w3 ⟨rfl, h3⟩)
    | go_in)
  have HO3 := Lib.hid (HO2.out.below h3.below)
  have H3 := Lib.hid h3
  have HX3 := Lib.hid (hb_below HX2.out h3.below (hb_lt HX2.out))
  have HK3 := Lib.hid (hb_below HK2.out h3.below (hb_lt HK2.out))
  have HM3 := Lib.hid (hb_below HM2.out h3.below (hb_lt HM2.out))
  clear h3
  go_wp2_with (first
    | (go_at_call 51; refine (dir_one F N L T c X lc K d cap used s tn cur _ HO3.out.store HO3.out.lasting HK3.out HO3.out.turns HO3.out.t0 HO3.out.t1 HO3.out.t2 HO3.out.t3).mono ?_; rintro e w4 ⟨C, rfl, h4⟩; have H4 := Lib.hid h4; clear h4)
    | (at_range; refine wpList_range_raw _ rfl _ 79 rfl 9 78 Try.underlying79 _ _ (lc + 1) rfl H4.out.map ?_; go_frame)
    | go_in)
  have hs3 := H3.out.size
  have HF4 := Lib.hid (hb_below H3.out.store H4.out.below (by omega))
  have HN4 := Lib.hid (hb_below H3.out.names H4.out.below (by omega))
  have HX4 := Lib.hid (hb_below HX3.out H4.out.below (hb_lt HX3.out))
  have HM4 := Lib.hid (hb_below HM3.out H4.out.below (hb_lt HM3.out))
  have Hs3 := Lib.hid hs3
  have hl4 := hb_lt HF4.out
  have hlX := hb_lt HX4.out
  have hlM := hb_lt HM4.out
  have hlC := hb_lt H4.out.map
  clear hs3
  refine wp_loop_rounds 2 ?_
  rw [rounds_succ]
  go_upto_region 8 with (first
    | (at_next; refine wpList_next_one _ rfl _ rfl w4.heap.size C (lc + 1) (lc + 1) (lc + 1) _ rfl (heap_alloc_new _ _) (hb_alloc H4.out.map _) (Nat.lt_succ_self _) (Nat.le_refl _) ?_; intro w5 hr5 hg5 hen5)
    | go_in)
  have HX5 := Lib.hid (hb_grown (hb_alloc HX4.out _) hg5 (by simp; omega))
  have HM5 := Lib.hid (hb_grown (hb_alloc HM4.out _) hg5 (by simp; omega))
  have HF5 := Lib.hid (hb_grown (hb_alloc HF4.out _) hg5 (by simp; omega))
  have HN5 := Lib.hid (hb_grown (hb_alloc HN4.out _) hg5 (by simp; omega))
  have HC5 := Lib.hid (hb_grown (hb_alloc H4.out.map _) hg5 (by simp; omega))
  have HR5 := Lib.hid hr5
  have HB5 := Lib.hid (below_grown (below1 w4 _) hg5 (by simp) (Nat.le_refl _))
  have x1 : w5.cell? ⟨X, 1, none⟩ = some (.slice none 0 0) := hb_at HX5.out 1 rfl
  simp only [] at hen5
  clear hr5 hg5
  go_upto_region 13 with (first
    | (at_lookup; refine wpList_look_raw _ rfl _ _ 91 true rfl 9 58 Try.underlying91 w.heap.size #[] 0 rfl HM5.out _ rfl (ck9 _ _ _) none (find9_none _ _) _ (zero58 _) (.tuple #[.agg #[.string ⟨#[]⟩, .slice none 0 0, .bool false], .bool false]) rfl ?_)
    | go_in)
  obtain ⟨w6, hw6⟩ : ∃ w6, w6 = w5.alloc (.cells #[.string ⟨#[]⟩, .slice none 0 0, .bool false] 58) := ⟨_, rfl⟩
  rw [← hw6]
  have HX6 := Lib.hid (show w6.heap[X]? = _ from hw6 ▸ hb_alloc HX5.out _)
  have HF6 := Lib.hid (show w6.heap[w2.heap.size + 2]? = _ from hw6 ▸ hb_alloc HF5.out _)
  have HN6 := Lib.hid (show w6.heap[w2.heap.size]? = _ from hw6 ▸ hb_alloc HN5.out _)
  have HC6 := Lib.hid (show w6.heap[C]? = _ from hw6 ▸ hb_alloc HC5.out _)
  have HR6 := Lib.hid (show w6.heap[w4.heap.size]? = _ from hw6 ▸ hb_alloc HR5.out _)
  have HB6 := Lib.hid (show Below w4.heap.size w4 w6 from hw6 ▸ HB5.out.alloc HB5.out.size _)
  clear hw6 x1 hen5
  have e2 : w6.cell? ⟨w2.heap.size + 2, 2, none⟩ = some (.map (some w2.heap.size)) := hb_at HF6.out 2 rfl
  have e2a : ∀ o, (w6.alloc o).cell? ⟨w2.heap.size + 2, 2, none⟩ = some (.map (some w2.heap.size)) := fun o => hb_at (hb_alloc HF6.out o) 2 rfl
  have hu : ∀ o v, (Instr.mapUpdate 79 (.map (some w2.heap.size)) (.string s) v).run Try.prog (w6.alloc o).drew = .ok () (Go.ChangeMaps.setBlock (w6.alloc o).drew w2.heap.size (.map #[⟨.string s, v, 0⟩] 1)) :=
    fun o v => run_put_new (es := #[]) (clock := 0) Try.underlying79 (hb_alloc HN6.out o) (ck9 _ _ _) (find9_none _ _)
  go_cut [53] (fun _ wx => ∃ X2, wx.heap[w2.heap.size]? = some (.map #[⟨.string s, .pointer (some ⟨X2, 0, none⟩), 0⟩] 1) ∧ wx.heap[X2]? = some (.cells #[.slice none 0 0, .slice none 0 0] 85 (0, 0)) ∧ w6.heap.size ≤ X2 ∧ w6.grownBy wx (some w2.heap.size))
  case first =>
    go_region_with (go_at_call 45; refine (bclone_nil _).mono ?_; rintro e w' ⟨rfl, rfl⟩)
    all_goals (go_wp2_with fail; go_meet; exact ⟨w6.heap.size, put_box_a HN6.out _ _, put_box_b HN6.out _ _, Nat.le_refl _, put_box_c _ _ _ _⟩)
  case rest =>
    obtain ⟨X2, hN7, hX7, hlX2, hg7⟩ := hcut
    clear hu e2 e2a
    have q1 := H4.out.new
    have q2 := Hs3.out
    have q3 := HB1.out.size
    have q4 := HB2.out.size
    have q5 := H4.out.below.size
    have HB7 := Lib.hid (below_grown (((((HB1.out.trans (HB2.out.mono q3)).trans (H3.out.below.mono (by omega))).trans (H4.out.below.mono (by omega))).trans (HB6.out.mono (by omega)))) hg7 (by have := HB6.out.size; omega) (by omega : w.heap.size ≤ w2.heap.size))
    have HF7 := Lib.hid (hb_grown HF6.out hg7 (by simp))
    have HC7 := Lib.hid (hb_grown HC6.out hg7 (by simp; omega))
    have HR7 := Lib.hid (hb_grown HR6.out hg7 (by simp; omega))
    have HN7 := Lib.hid hN7
    have HX7 := Lib.hid hX7
    have q6 := hb_lt HR6.out
    clear hg7 hN7 hX7
    have e1 : wc.cell? ⟨w2.heap.size + 2, 1, none⟩ = some (.int .i64 0) := hb_at HF7.out 1 rfl
    have f1 := hb_free HF7.out 1
    go_upto_region 14 with fail
    obtain ⟨wd, hF8, hg8, hwd⟩ : ∃ wd, wd.heap[w2.heap.size + 2]? = some (.cells (fsCells cap 0 w2.heap.size (w2.heap.size + 1) (.slice none 0 0)) 82 (0, 0)) ∧ wc.grownBy wd (some (w2.heap.size + 2)) ∧ wd = wc.setCell ⟨w2.heap.size + 2, 1, none⟩ (.int .i64 0) := ⟨_, hb_set_same HF7.out 1 _, grown_set _ _ _, rfl⟩
    have Hwd := Lib.hid hwd
    have HN8 := Lib.hid (hb_grown HN7.out hg8 (by simp))
    have HC8 := Lib.hid (hb_grown HC7.out hg8 (by simp; omega))
    have HR8 := Lib.hid (hb_grown HR7.out hg8 (by simp; omega))
    have HX8 := Lib.hid (hb_grown HX7.out hg8 (by simp; omega))
    have HB8 := Lib.hid (below_grown HB7.out hg8 (by have := HB7.out.size; omega) (by omega))
    have HF8 := Lib.hid hF8
    have HG8 := Lib.hid hg8
    have hl8 := hb_lt hF8
    clear hwd hg8 hF8
    have e2 : wd.cell? ⟨w2.heap.size + 2, 2, none⟩ = some (.map (some w2.heap.size)) := hb_at HF8.out 2 rfl
    have e3 : ∀ o, (wd.alloc o).cell? ⟨w2.heap.size + 2, 3, none⟩ = some (.map (some (w2.heap.size + 1))) := fun o => hb_at (hb_alloc HF8.out o) 3 rfl
    have f3 : ∀ o, (wd.alloc o).frozen? ⟨w2.heap.size + 2, 3, none⟩ = false := fun o => hb_free (hb_alloc HF8.out o) 3
    have q0 : IntKind.i64.wrap 0 = 0 := IntWalk.i64_in _ (by omega)
    go_region_with (go_at_call 53; refine (sectors_zero _).mono ?_; rintro e w' ⟨rfl, rfl⟩)
    all_goals
      go_wp2_with fail
      rw [← Hwd.out]
      rw [rounds_succ]
      go_wp2_with (first
        | (at_next; refine wpList_next_done _ rfl _ rfl w4.heap.size C (lc + 1) (lc + 1) (lc + 1) #[lc] _ rfl HR8.out HC8.out (by simp) (Nat.le_refl _) (by simp [leftOf]) ?_)
        | (go_at_call 54; refine (mclone_ok w2.heap.size _ 1 wd.drew HN8.out).mono ?_; rintro e w' ⟨rfl, rfl⟩)
        | go_in)
      go_ret
      have q7 := HB8.out.size
      have q8 := HB6.out.size
      have q9 := HB8.out.setCell (p := ⟨w2.heap.size + 2, 3, none⟩) (by show w.heap.size ≤ w2.heap.size + 2; omega) (.map (some wd.heap.size))
      exact ⟨_, rfl, ⟨w2.heap.size, wd.heap.size, X2, hb_alloc (hb_set_same HF8.out 3 _) _, hb_alloc (hb_set_other HN8.out _ (by simp)) _, hb_alloc (hb_set_other HX8.out _ (by simp; omega)) _⟩, (q9.alloc q9.size _).drew⟩
end Go.Proofs.Ytmfphnhdahaooaa
