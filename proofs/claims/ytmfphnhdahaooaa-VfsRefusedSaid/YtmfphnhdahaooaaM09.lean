/- The texts Vj, Vk, one behind the other. -/
import Derived.Test.YtmfphnhdahaooaaM04
import Derived.Shelf.SlMaps.Clone
import Derived.Test.YtmfphnhdahaooaaM05
set_option linter.unusedSimpArgs false
set_option linter.unusedVariables false
/- Copies of maps and of bytes; the directory behind a crash without turns, and with the one turn that there is. -/
namespace Go.Proofs.Ytmfphnhdahaooaa
open Go.RowKit Go.Maps Go.Shelf

set_option maxRecDepth 100000 in
set_option maxHeartbeats 1000000 in
theorem mclone_ok (b : Nat) (es : Array MapEntry) (clock : Nat) (w : World) (hb : w.heap[b]? = some (.map es clock)) :
    Calls Try.prog 54 #[.map (some b)] w fun e w' => e = .returned (.map (some w.heap.size)) ∧ w' = w.alloc (.map es clock) := by
  have hq := fun w => run_eql_map_nil_sl (P := Try.prog) w 79 _ _ (some b) Try.underlying79
  go_enter Try.func54, Try.ntmps54
  go_wp2
  rw [run_callFunc_extern Try.func70 (by kernel_rfl) (by kernel_rfl) (by kernel_rfl) (e := Extern.MapsClone.clone) (by kernel_rfl), run_maps_clone_sl w 79 hb]
  simp only [Result.andThen]
  rw [Oper.upon_value]
  go_wp2
  rw [run_typeAssert_map_sl _ 79 20 _ _ _ Try.underlying79]
  simp only [Result.andThen]
  rw [Oper.upon_value]
  go_wp2
  go_ret
  exact ⟨rfl, rfl⟩

set_option maxRecDepth 100000 in
theorem bclone_nil (w : World) : Calls Try.prog 45 #[.slice none 0 0] w fun e w' => e = .returned (.slice none 0 0) ∧ w' = w := by
  have hq := fun w => Lib.run_eql_slice_nil (P := Try.prog) w 45 5 none 0 0 0 0 Try.underlying45
  go_enter Try.func45, Try.ntmps45
  go_wp2
  go_ret
  exact ⟨rfl, rfl⟩

theorem own_of_block {w : World} {g : Nat} {x : Value} (h : w.heap[g]? = some (.cells #[x] 5 (0, 0))) : w.ownsRow 0 5 1 (.slice (some ⟨g, 0, none⟩) 1 1) 1 [x] :=
  ⟨rfl, .inr ⟨g, 1, #[x], rfl, Nat.zero_le _, h, Nat.le_refl _, by decide, rfl, rfl⟩⟩

structure NewRow (v : Value) (n : Nat) (xs : List Value) (w w' : World) : Prop where
  own : w'.ownsRow w.heap.size 5 1 v n xs
  below : Below w.heap.size w w'

set_option maxRecDepth 100000 in
set_option maxHeartbeats 1000000 in
theorem bclone_some (g n c : Nat) (xs : List Value) (w : World) (hg : w.ownsRow 0 5 1 (.slice (some ⟨g, 0, none⟩) n c) n xs) (hm : 0 < n) (hn : n ≤ 1000000) (hone : ∀ u ∈ xs, u.oneCell' = true) :
    Calls Try.prog 45 #[.slice (some ⟨g, 0, none⟩) n c] w fun e w' => ∃ v, e = .returned v ∧ NewRow v n xs w w' := by
  obtain ⟨i0, hi, hz0, hz1, hz2⟩ := info_parts info5
  have Hg := Lib.hid hg
  have Ho := Lib.hid hone
  clear hg hone
  have hq := fun w => Lib.run_eql_slice_nil (P := Try.prog) w 45 5 (some ⟨g, 0, none⟩) n c 0 0 Try.underlying45
  go_enter Try.func45, Try.ntmps45
  go_wp2_with (first
    | (at_builtin; refine wpList_append_lies _ rfl _ _ 45 rfl w.heap.size 5 i0 _ 1 1 Try.underlying45 hi hz0 hz1 hz2 rfl (by decide) _ 0 [] rfl (World.ownsRow_made w #[] 0 (Nat.le_refl _) (by decide) rfl) ⟨g, 0, none⟩ n c xs rfl (by rw [Hg.out.1]) ((Hg.out.alloc _).cells rfl) Ho.out hm (by unfold maxLen; omega) (by omega) (by simp) _ rfl ?_; intro g2 cap2 w2 hown2 hg2 hat2 hlt2)
    | go_in)
  go_ret
  rw [Nat.zero_add] at hown2
  exact ⟨_, rfl, hown2, below_grown (below1 _ _) hg2 (by simp) (Nat.le_refl _)⟩

set_option maxRecDepth 100000 in
set_option maxHeartbeats 1000000 in
theorem bclone_form (g n c : Nat) (xs : List Value) (w : World) (hg : w.ownsRow 0 5 1 (.slice (some ⟨g, 0, none⟩) n c) n xs) (hm : 0 < n) (hn : n ≤ 1000000) (hone : ∀ u ∈ xs, u.oneCell' = true) :
    Calls Try.prog 45 #[.slice (some ⟨g, 0, none⟩) n c] w fun e w' => ∃ g2 c2, e = .returned (.slice (some ⟨g2, 0, none⟩) n c2) ∧ NewRow (.slice (some ⟨g2, 0, none⟩) n c2) n xs w w' := by
  obtain ⟨i0, hi, hz0, hz1, hz2⟩ := info_parts info5
  have Hg := Lib.hid hg
  have Ho := Lib.hid hone
  clear hg hone
  have hq := fun w => Lib.run_eql_slice_nil (P := Try.prog) w 45 5 (some ⟨g, 0, none⟩) n c 0 0 Try.underlying45
  go_enter Try.func45, Try.ntmps45
  go_wp2_with (first
    | (at_builtin; refine wpList_append_lies _ rfl _ _ 45 rfl w.heap.size 5 i0 _ 1 1 Try.underlying45 hi hz0 hz1 hz2 rfl (by decide) _ 0 [] rfl (World.ownsRow_made w #[] 0 (Nat.le_refl _) (by decide) rfl) ⟨g, 0, none⟩ n c xs rfl (by rw [Hg.out.1]) ((Hg.out.alloc _).cells rfl) Ho.out hm (by unfold maxLen; omega) (by omega) (by simp) _ rfl ?_; intro g2 cap2 w2 hown2 hg2 hat2 hlt2)
    | go_in)
  go_ret
  simp only [Nat.zero_add, List.nil_append] at hown2
  exact ⟨g2, cap2, by rw [← Nat.zero_add n]; rfl, hown2, below_grown (below1 _ _) hg2 (by simp) (Nat.le_refl _)⟩
end Go.Proofs.Ytmfphnhdahaooaa
/- The directory behind a crash: without turns the one that lasts; with the one turn that there is, a name has come to be. -/
namespace Go.Proofs.Ytmfphnhdahaooaa
open Go.RowKit Go.Maps

theorem ck3 (em : Bool) (n : Int) (w : World) : (Instr.checkKey em 10000 3 (.int .i64 n)).run Try.prog w = .ok () w := by kernel_rfl
theorem find3_none (n : Int) (w : World) : (Instr.findKey 3 (.int .i64 n) []).run Try.prog w = .ok none w := by kernel_rfl
theorem find3_0 (w : World) : (Instr.findKey 3 (.int .i64 0) [⟨.int .i64 0, .agg #[], 0⟩]).run Try.prog w = .ok (some (0, .agg #[])) w := by kernel_rfl
theorem zero118 (w : World) : (zeroValue 118).run Try.prog w = .ok (.agg #[]) w := by kernel_rfl

set_option maxRecDepth 100000 in
set_option maxHeartbeats 1000000 in
theorem dir_none (F N L T c X lc : Nat) (cap used : Int) (s tn : ByteArray) (cur : Array Value) (w : World)
    (hF : w.heap[F]? = some (.cells (fsCells cap used N L (.slice (some ⟨T, 0, none⟩) 1 c)) 82 (0, 0))) (hL : w.heap[L]? = some (.map #[] lc))
    (hT : w.heap[T]? = some (.cells cur 87 (0, 0))) (t0 : cur[0]? = some (.int .i64 0)) (t1 : cur[1]? = some (.string s)) (t2 : cur[2]? = some (.string tn)) (t3 : cur[3]? = some (.pointer (some ⟨X, 0, none⟩))) :
    Calls Try.prog 51 #[.pointer (some ⟨F, 0, none⟩), .slice none 0 0] w fun e w' => e = .returned (.map (some (w.heap.size + 1))) ∧ NewMap (w.heap.size + 1) #[] lc w w' := by
  have hmm := @run_makeMap Try.prog
  have c3 : ∀ o, (w.alloc o).cell? ⟨F, 3, none⟩ = some (.map (some L)) := fun o => hb_at (hb_alloc hF o) 3 rfl
  have c4 : ∀ o p, ((w.alloc o).alloc p).cell? ⟨F, 4, none⟩ = some (.slice (some ⟨T, 0, none⟩) 1 c) := fun o p => hb_at (hb_alloc (hb_alloc hF o) p) 4 rfl
  have d0 : ∀ o p, ((w.alloc o).alloc p).cell? ⟨T, 0, none⟩ = some (.int .i64 0) := fun o p => hb_at (hb_alloc (hb_alloc hT o) p) 0 t0
  have d1 : ∀ o p, ((w.alloc o).alloc p).cell? ⟨T, 1, none⟩ = some (.string s) := fun o p => hb_at (hb_alloc (hb_alloc hT o) p) 1 t1
  have d2 : ∀ o p, ((w.alloc o).alloc p).cell? ⟨T, 2, none⟩ = some (.string tn) := fun o p => hb_at (hb_alloc (hb_alloc hT o) p) 2 t2
  have d3 : ∀ o p, ((w.alloc o).alloc p).cell? ⟨T, 3, none⟩ = some (.pointer (some ⟨X, 0, none⟩)) := fun o p => hb_at (hb_alloc (hb_alloc hT o) p) 3 t3
  have HL := Lib.hid hL
  clear hF hL hT t0 t1 t2 t3
  go_enter Try.func51, Try.ntmps51
  go_wp2
  refine wp_loop_rounds 1 ?_
  rw [rounds_succ]
  go_wp2_with (first
    | (go_at_call 54; refine (mclone_ok L _ lc _ (hb_alloc HL.out _)).mono ?_; rintro e w' ⟨rfl, rfl⟩)
    | go_in)
  refine wp_loop_rounds 2 ?_
  rw [rounds_succ]
  go_wp2_with (first
    | (at_lookup; refine wpList_look_raw _ rfl _ _ 121 true rfl 3 118 Try.underlying121 w.heap.size #[] 0 rfl (hb_alloc (hb_alloc (heap_alloc_new w _) _) _) _ rfl (ck3 _ _ _) none (find3_none _ _) _ (zero118 _) (.tuple #[.agg #[], .bool false]) rfl ?_)
    | go_in)
  rw [rounds_succ]
  go_wp2
  go_ret
  exact ⟨rfl, hb_alloc (hb_alloc (new2 _ _ _) _) _, by omega, below4 _ _ _ _ _⟩

set_option maxRecDepth 100000 in
set_option maxHeartbeats 1000000 in
theorem dir_one (F N L T c X lc K d : Nat) (cap used : Int) (s tn : ByteArray) (cur : Array Value) (w : World)
    (hF : w.heap[F]? = some (.cells (fsCells cap used N L (.slice (some ⟨T, 0, none⟩) 1 c)) 82 (0, 0))) (hL : w.heap[L]? = some (.map #[] lc)) (hK : w.heap[K]? = some (.cells #[.int .i64 0] 3 (0, 0)))
    (hT : w.heap[T]? = some (.cells cur 87 (0, 0))) (t0 : cur[0]? = some (.int .i64 0)) (t1 : cur[1]? = some (.string s)) (t2 : cur[2]? = some (.string tn)) (t3 : cur[3]? = some (.pointer (some ⟨X, 0, none⟩))) :
    Calls Try.prog 51 #[.pointer (some ⟨F, 0, none⟩), .slice (some ⟨K, 0, none⟩) 1 d] w fun e w' => ∃ C, e = .returned (.map (some C)) ∧ NewMap C #[⟨.string s, .pointer (some ⟨X, 0, none⟩), lc⟩] (lc + 1) w w' := by
  have hmm := @run_makeMap Try.prog
  have k0 : ∀ o, (w.alloc o).cell? ⟨K, 0, none⟩ = some (.int .i64 0) := fun o => hb_at (hb_alloc hK o) 0 rfl
  have HL := Lib.hid hL
  have HF := Lib.hid hF
  have HT := Lib.hid hT
  have HC := Lib.hid (And.intro t0 (And.intro t1 (And.intro t2 t3)))
  have hFl := hb_lt hF
  have hTl := hb_lt hT
  have hLl := hb_lt hL
  clear hF hL hT hK t0 t1 t2 t3
  go_enter Try.func51, Try.ntmps51
  go_wp2
  refine wp_loop_rounds 2 ?_
  rw [rounds_succ]
  go_wp2_with (first
    | (at_mapUpdate; refine wpList_put_new _ rfl _ _ _ 121 rfl 3 118 Try.underlying121 w.heap.size #[] 0 rfl (heap_alloc_new w _) _ _ rfl rfl (ck3 _ _ _) (find3_none _ _) ?_; intro w1 hN1 hg1 hs1)
    | go_in)
  have HM1 := Lib.hid (show w1.heap[w.heap.size]? = some (.map #[⟨.int .i64 0, .agg #[], 0⟩] 1) from hN1)
  have HG1 := Lib.hid hg1
  have hF1 := hb_grown (hb_alloc HF.out _) hg1 (by simp; omega)
  have hT1 := hb_grown (hb_alloc HT.out _) hg1 (by simp; omega)
  have HL1 := Lib.hid (hb_grown (hb_alloc HL.out _) hg1 (by simp; omega))
  have hsz : w.heap.size < w1.heap.size := by rw [hs1, size1]; omega
  clear hN1 hg1 hs1
  have c3 : w1.cell? ⟨F, 3, none⟩ = some (.map (some L)) := hb_at hF1 3 rfl
  have c4 : ∀ o, (w1.alloc o).cell? ⟨F, 4, none⟩ = some (.slice (some ⟨T, 0, none⟩) 1 c) := fun o => hb_at (hb_alloc hF1 o) 4 rfl
  have d0 : ∀ o, (w1.alloc o).cell? ⟨T, 0, none⟩ = some (.int .i64 0) := fun o => hb_at (hb_alloc hT1 o) 0 HC.out.1
  have d1 : ∀ o, (w1.alloc o).cell? ⟨T, 1, none⟩ = some (.string s) := fun o => hb_at (hb_alloc hT1 o) 1 HC.out.2.1
  have d2 : ∀ o, (w1.alloc o).cell? ⟨T, 2, none⟩ = some (.string tn) := fun o => hb_at (hb_alloc hT1 o) 2 HC.out.2.2.1
  have d3 : ∀ o, (w1.alloc o).cell? ⟨T, 3, none⟩ = some (.pointer (some ⟨X, 0, none⟩)) := fun o => hb_at (hb_alloc hT1 o) 3 HC.out.2.2.2
  clear hF1 hT1
  rw [rounds_succ]
  go_wp2_with (first
    | (go_at_call 54; refine (mclone_ok L _ lc _ HL1.out).mono ?_; rintro e w' ⟨rfl, rfl⟩)
    | go_in)
  refine wp_loop_rounds 2 ?_
  rw [rounds_succ]
  go_wp2_with (first
    | (at_lookup; refine wpList_look_raw _ rfl _ _ 121 true rfl 3 118 Try.underlying121 w.heap.size _ 1 rfl (hb_alloc (hb_alloc HM1.out _) _) _ rfl (ck3 _ _ _) _ (find3_0 _) _ (zero118 _) (.tuple #[.agg #[], .bool true]) rfl ?_)
    | (go_at_call 47; refine (change_comes s tn X w1.heap.size #[] lc _ (hb_alloc (hb_alloc (heap_alloc_new w1 _) _) _) (find9_none s)).mono ?_; rintro e w2 ⟨rfl, hC2, hg2⟩)
    | go_in)
  have HC2 := Lib.hid (show w2.heap[w1.heap.size]? = some (.map #[⟨.string s, .pointer (some ⟨X, 0, none⟩), lc⟩] (lc + 1)) from hC2)
  have hb1 : Below w.heap.size w w1 := below_grown (below1 w _) HG1.out (by rw [size1]; omega) (Nat.le_refl _)
  have hb2 : Below w1.heap.size w1 w2 := below_grown (below3 w1 _ _ _) hg2 (by rw [size3]; omega) (Nat.le_refl _)
  have HB := Lib.hid (hb1.trans (hb2.mono (by omega)))
  clear hC2 hg2 hb1 hb2
  rw [rounds_succ]
  go_wp2
  go_ret
  exact ⟨_, rfl, HC2.out, by omega, HB.out⟩
end Go.Proofs.Ytmfphnhdahaooaa
