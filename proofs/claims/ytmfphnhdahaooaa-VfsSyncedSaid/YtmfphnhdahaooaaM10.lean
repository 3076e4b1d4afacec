/- The texts Vl, Vm, Vo, Vp, one behind the other. -/
import Derived.Test.YtmfphnhdahaooaaM09
import Derived.Deep.RegionLaw
import Derived.IntWalk
import Derived.Deep.DeepCutAuto
import Derived.Test.YtmfphnhdahaooaaM06
set_option linter.unusedSimpArgs false
set_option linter.unusedVariables false
/- What a crash leaves of the file a of one byte, whose sector 0 and whose length survive: this byte. -/
namespace Go.Proofs.Ytmfphnhdahaooaa
open Go.RowKit Go.Maps

theorem ck120t (em : Bool) (s : ByteArray) (n : Int) (w : World) : (Instr.checkKey em 10000 120 (.agg #[.string s, .int .i64 n])).run Try.prog w = .ok () w := by kernel_rfl
theorem find120_a (w : World) : (Instr.findKey 120 (.agg #[.string ⟨#[97]⟩, .int .i64 0]) [⟨.agg #[.string ⟨#[97]⟩, .int .i64 0], .agg #[], 0⟩]).run Try.prog w = .ok (some (0, .agg #[])) w := by kernel_rfl
theorem sectors_one (w : World) : Calls Try.prog 53 #[.int .i64 1] w fun e w' => e = .returned (.int .i64 1) ∧ w = w' := by
  go_enter Try.func53, Try.ntmps53
  go_wp2
  go_ret
  exact ⟨rfl, rfl⟩

set_option maxRecDepth 100000 in
set_option maxHeartbeats 1000000 in
theorem left_one (X B c K : Nat) (u : Int) (cur : Array Value) (w : World)
    (hX : w.heap[X]? = some (.cells #[.slice (some ⟨B, 0, none⟩) 1 c, .slice none 0 0] 85 (0, 0))) (hB : w.heap[B]? = some (.cells cur 5 (0, 0))) (hu : cur[0]? = some (.int .u8 u)) (hc : 1 ≤ c)
    (hK : w.heap[K]? = some (.map #[⟨.agg #[.string ⟨#[97]⟩, .int .i64 0], .agg #[], 0⟩] 1)) :
    Calls Try.prog 52 #[.pointer (some ⟨X, 0, none⟩), .string ⟨#[97]⟩, .bool true, .map (some K)] w fun e w' => e = .returned (.slice (some ⟨w.heap.size, 0, none⟩) 1 1) ∧ w'.heap[w.heap.size]? = some (.cells #[.int .u8 u] 5 (0, 0)) ∧ Below w.heap.size w w' := by
  have x0 : w.cell? ⟨X, 0, none⟩ = some (.slice (some ⟨B, 0, none⟩) 1 c) := hb_at hX 0 rfl
  have x1 : w.cell? ⟨X, 1, none⟩ = some (.slice none 0 0) := hb_at hX 1 rfl
  have x2 : ∀ o, (w.alloc o).cell? ⟨X, 1, none⟩ = some (.slice none 0 0) := fun o => hb_at (hb_alloc hX o) 1 rfl
  have x3 : ∀ o p, ((w.alloc o).alloc p).cell? ⟨X, 0, none⟩ = some (.slice (some ⟨B, 0, none⟩) 1 c) := fun o p => hb_at (hb_alloc (hb_alloc hX o) p) 0 rfl
  have HK := Lib.hid hK
  have HB := Lib.hid hB
  have HU := Lib.hid hu
  clear hX hK hB hu
  have hmk : ∀ w, (Instr.makeSlice 45 (.int .i64 1) (.int .i64 1)).run Try.prog w = .ok (.slice (some ⟨w.heap.size, 0, none⟩) 1 1) (w.alloc (.cells #[.int .u8 0] 5)) := fun _ => by kernel_rfl
  go_enter Try.func52, Try.ntmps52
  go_wp2_with (first
    | (go_at_call 53; refine (sectors_one _).mono ?_; rintro e w' ⟨rfl, rfl⟩)
    | go_in)
  refine wp_loop_rounds 2 ?_
  rw [rounds_succ]
  go_wp2_with (first
    | (at_lookup; refine wpList_look_raw _ rfl _ _ 93 true rfl 120 118 Try.underlying93 K _ 1 rfl (hb_alloc HK.out _) _ rfl (ck120t _ _ _ _) _ (find120_a _) _ (zero118 _) (.tuple #[.agg #[], .bool true]) rfl ?_)
    | go_in)
  have hcell : ∀ j v, [Value.int .u8 u][j]? = some v → (((w.alloc (.cells #[.int .u8 0] 5)).alloc (.cells #[] 118)).drew).cell? ((⟨B, 0, none⟩ : Addr).add j) = some v := by
    intro j v hj
    have e := hb_cell_add (hb_alloc (hb_alloc HB.out (.cells #[.int .u8 0] 5)) (.cells #[] 118)) j
    refine Eq.trans (show _ = _ from e) ?_
    have hj0 : j = 0 := by
      rcases Nat.eq_zero_or_pos j with h | h
      · exact h
      · rw [List.getElem?_eq_none (by simp; omega)] at hj
        cases hj
    subst hj0
    rw [HU.out]
    simpa using hj
  have Hc := Lib.hid hcell
  clear hcell
  have q1 : IntKind.i64.wrap 512 = 512 := IntWalk.i64_in _ (by omega)
  go_region_law (refine step_copy_splice rfl (.tmp 63) (.tmp 66) 45 45 rfl 5 Try.underlying45 size5 (some ⟨w.heap.size, 0, none⟩) (some ⟨B, 0, none⟩) 1 1 1 c (by simp [Act.eval, Act.put]) (by simp [Act.eval, Act.put]) w.heap.size 0 [.int .u8 0] 5 (hb_alloc (heap_alloc_new w _) _) [.int .u8 u] rfl (fun _ => ⟨rfl, _, rfl, Hc.out⟩) (by simp) (by simp [Value.oneCell']) w.heap.size w (below2 w _ _).drew (Nat.le_refl _) ?_; intro w2 hO2 hB2)
  all_goals
    clear q1
    go_wp2
    rw [rounds_succ]
    go_wp2
    go_ret
    exact ⟨rfl, hO2.out, hB2⟩
end Go.Proofs.Ytmfphnhdahaooaa
/- A crash of a store with one file, which was never synced: without turns nothing is left. -/
namespace Go.Proofs.Ytmfphnhdahaooaa
open Go.RowKit Go.Maps

structure One (F N L T c X lc : Nat) (cap used : Nat) (s tn : ByteArray) (cur : Array Value) (w : World) : Prop where
  store : w.heap[F]? = some (.cells (fsCells cap used N L (.slice (some ⟨T, 0, none⟩) 1 c)) 82 (0, 0))
  lasting : w.heap[L]? = some (.map #[] lc)
  turns : w.heap[T]? = some (.cells cur 87 (0, 0))
  t0 : cur[0]? = some (.int .i64 0)
  t1 : cur[1]? = some (.string s)
  t2 : cur[2]? = some (.string tn)
  t3 : cur[3]? = some (.pointer (some ⟨X, 0, none⟩))

theorem One.below {F N L T c X lc cap used : Nat} {s tn : ByteArray} {cur : Array Value} {w w' : World} (h : One F N L T c X lc cap used s tn cur w) (hb : Below w.heap.size w w') : One F N L T c X lc cap used s tn cur w' :=
  ⟨hb_below h.store hb (hb_lt h.store), hb_below h.lasting hb (hb_lt h.lasting), hb_below h.turns hb (hb_lt h.turns), h.t0, h.t1, h.t2, h.t3⟩

structure Left0 (F2 : Nat) (cap : Nat) (w w' : World) : Prop where
  all : ∃ N2 L2, w'.heap[F2]? = some (.cells (fsCells cap 0 N2 L2 (.slice none 0 0)) 82 (0, 0)) ∧ w'.heap[N2]? = some (.map #[] 0)
  below : Below w.heap.size w w'

set_option maxRecDepth 100000 in
set_option maxHeartbeats 2000000 in
theorem crash_none (F N L T c X lc cap used : Nat) (s tn : ByteArray) (cur : Array Value) (w : World) (hO : One F N L T c X lc cap used s tn cur w) (hc : 0 < cap) :
    Calls Try.prog 20 #[.pointer (some ⟨F, 0, none⟩), .slice none 0 0, .slice none 0 0] w fun e w' => ∃ F2, e = .returned (.pointer (some ⟨F2, 0, none⟩)) ∧ Left0 F2 cap w w' := by
  have c0 : w.cell? ⟨F, 0, none⟩ = some (.int .i64 cap) := hb_at hO.store 0 rfl
  have HO := Lib.hid hO
  clear hO
  go_enter Try.func20, Try.ntmps20
  go_upto_region 3 with (first
    | (go_at_call 46; refine (made_yes F cap hc _ (by assumption)).mono ?_; rintro e w' ⟨rfl, rfl⟩)
    | go_in)
  go_upto_region 4 with (first
    | (go_at_call 49; refine (firsts_nil _).mono ?_; rintro e w1 ⟨rfl, h1⟩)
    | go_in)
  have HO1 := Lib.hid (HO.out.below h1.below)
  have HM1 := Lib.hid h1.map
  have HB1 := Lib.hid h1.below
  have c1 : w1.cell? ⟨F, 0, none⟩ = some (.int .i64 cap) := hb_at HO1.out.store 0 rfl
  clear h1
  go_upto_region 5 with (first
    | (go_at_call 50; refine (kept_empty _ 0 _ HM1.out).mono ?_; rintro e w2 ⟨rfl, h2⟩)
    | go_in)
  have HO2 := Lib.hid (HO1.out.below h2.below)
  have HB2 := Lib.hid h2.below
  have c2 : w2.cell? ⟨F, 0, none⟩ = some (.int .i64 cap) := hb_at HO2.out.store 0 rfl
  clear h2
  go_upto_region 6 with (first
    | (go_at_call 32; refine (empty_ok cap _).mono ?_; rintro e w3 ⟨rfl, h3⟩)
    | go_in)
  have HO3 := Lib.hid (HO2.out.below h3.below)
  have H3 := Lib.hid h3
  clear h3
  go_wp2_with (first
    | (go_at_call 51; refine (dir_none F N L T c X lc cap used s tn cur _ HO3.out.store HO3.out.lasting HO3.out.turns HO3.out.t0 HO3.out.t1 HO3.out.t2 HO3.out.t3).mono ?_; rintro e w4 ⟨rfl, h4⟩; have H4 := Lib.hid h4; clear h4)
    | (at_range; refine wpList_range_raw _ rfl _ 79 rfl 9 78 Try.underlying79 _ #[] lc rfl H4.out.map ?_; go_frame)
    | go_in)
  have hs3 := H3.out.size
  have hF4 := hb_below H3.out.store H4.out.below (by omega)
  have hN4 := hb_below H3.out.names H4.out.below (by omega)
  have e2 : ∀ o, (w4.alloc o).cell? ⟨w2.heap.size + 2, 2, none⟩ = some (.map (some w2.heap.size)) := fun o => hb_at (hb_alloc hF4 o) 2 rfl
  have e3 : ∀ o p, ((w4.alloc o).alloc p).cell? ⟨w2.heap.size + 2, 3, none⟩ = some (.map (some (w2.heap.size + 1))) := fun o p => hb_at (hb_alloc (hb_alloc hF4 o) p) 3 rfl
  have f3 : ∀ o p, ((w4.alloc o).alloc p).frozen? ⟨w2.heap.size + 2, 3, none⟩ = false := fun o p => hb_free (hb_alloc (hb_alloc hF4 o) p) 3
  have HF4 := Lib.hid hF4
  have HN4 := Lib.hid hN4
  have Hs3 := Lib.hid hs3
  clear hF4 hN4 hs3
  refine wp_loop_rounds 1 ?_
  rw [rounds_succ]
  go_wp2_with (first
    | (at_next; refine wpList_next_done _ rfl _ rfl _ _ lc lc lc #[] #[] rfl (heap_alloc_new _ _) (hb_alloc H4.out.map _) (by simp) (Nat.le_refl _) (by simp [leftOf]) ?_)
    | (go_at_call 54; refine (mclone_ok w2.heap.size _ 0 _ (hb_alloc HN4.out _)).mono ?_; rintro e w' ⟨rfl, rfl⟩)
    | go_in)
  go_ret
  have hsz1 := HB1.out.size
  have hsz2 := HB2.out.size
  have hsz3 := Hs3.out
  have hsz4 := H4.out.below.size
  refine ⟨_, rfl, ⟨w2.heap.size, w4.heap.size + 1, hb_set_same (hb_alloc (hb_alloc HF4.out _) _) 3 _, hb_set_other (hb_alloc (hb_alloc HN4.out _) _) _ (by simp)⟩, ?_⟩
  exact (((HB1.out.trans (HB2.out.mono hsz1)).trans (H3.out.below.mono (by omega))).trans (H4.out.below.mono (by omega))).trans (((below2 w4 _ _).mono (by omega)).setCell (by simp; omega) _)
end Go.Proofs.Ytmfphnhdahaooaa
/- A crash of a store with one file, which was never synced: with its turn, its sector and its length it is left whole. -/
namespace Go.Proofs.Ytmfphnhdahaooaa
open Go.RowKit Go.Maps

theorem own_base0 {w : World} {b : Nat} {e : TypeId} {size : Nat} {v : Value} {n : Nat} {xs : List Value} (h : w.ownsRow b e size v n xs) : w.ownsRow 0 e size v n xs := by
  obtain ⟨hl, h⟩ := h
  refine ⟨hl, ?_⟩
  rcases h with h | ⟨g, cap, cur, r1, _, r2⟩
  · exact .inl h
  · exact .inr ⟨g, cap, cur, r1, Nat.zero_le _, r2⟩

def TwoBox (N2 : Nat) (s : ByteArray) (u : Int) (w6 wx : World) : Prop := ∃ X2 g1 c1 g2 c2, wx.heap[N2]? = some (.map #[⟨.string s, .pointer (some ⟨X2, 0, none⟩), 0⟩] 1) ∧
  wx.heap[X2]? = some (.cells #[.slice (some ⟨g1, 0, none⟩) 1 c1, .slice (some ⟨g2, 0, none⟩) 1 c2] 85 (0, 0)) ∧ w6.heap.size ≤ X2 ∧ w6.grownBy wx (some N2) ∧ wx.ownsRow 0 5 1 (.slice (some ⟨g1, 0, none⟩) 1 c1) 1 [.int .u8 u]

theorem two_box {w6 w7 w8 : World} {N2 g1 d1 g2 d2 : Nat} {u : Int} (s : ByteArray) (hN : w8.heap[N2]? = some (.map #[] 0)) (h7 : NewRow (.slice (some ⟨g1, 0, none⟩) 1 d1) 1 [.int .u8 u] w6.drew w7) (h8 : NewRow (.slice (some ⟨g2, 0, none⟩) 1 d2) 1 [.int .u8 u] w7 w8) :
    TwoBox N2 s u w6 (Go.ChangeMaps.setBlock (w8.alloc (.cells #[.slice (some ⟨g1, 0, none⟩) 1 d1, .slice (some ⟨g2, 0, none⟩) 1 d2] 85)) N2 (.map #[⟨.string s, .pointer (some ⟨w8.heap.size, 0, none⟩), 0⟩] 1)) := by
  have hl := hb_lt hN
  have b7 : Below w6.heap.size w6 w7 := ⟨h7.below.os, h7.below.tape, h7.below.output, h7.below.size, h7.below.block⟩
  have s7 : w6.heap.size ≤ w7.heap.size := b7.size
  have s8 := h8.below.size
  have b8 : Below w6.heap.size w6 w8 := b7.trans (h8.below.mono s7)
  have o8 : w8.ownsRow 0 5 1 (.slice (some ⟨g1, 0, none⟩) 1 d1) 1 [.int .u8 u] := own_kept (own_base0 h7.own) (fun g x _ hx => hb_below hx h8.below (hb_lt hx))
  refine ⟨w8.heap.size, g1, d1, g2, d2, block_same (hb_alloc hN _) _, (block_other _ (by omega)).trans (heap_alloc_new w8 _), by omega, ⟨b8.os, b8.tape, b8.output, ?_, ?_⟩, ?_⟩
  · have := block_other (w := w8.alloc (.cells #[.slice (some ⟨g1, 0, none⟩) 1 d1, .slice (some ⟨g2, 0, none⟩) 1 d2] 85)) (b := N2) (k := w8.heap.size) (.map #[⟨.string s, .pointer (some ⟨w8.heap.size, 0, none⟩), 0⟩] 1) (by omega)
    rw [heap_alloc_new] at this
    have := hb_lt this
    omega
  · intro k hk hkr
    exact (block_other _ (fun e => hkr (by rw [e]))).trans ((heap_alloc_old w8 _ (by omega)).trans (b8.block k hk))
  · exact own_kept (o8.alloc _) (fun g x hg hx => (block_other _ (fun e => own_ne o8 hN (by simp) (by rw [hg, e]))).trans hx)

structure Left2 (F2 cap : Nat) (u : Int) (w w' : World) : Prop where
  all : ∃ N2 L2 X2 g c lv, w'.heap[F2]? = some (.cells (fsCells cap 1 N2 L2 (.slice none 0 0)) 82 (0, 0)) ∧ w'.heap[N2]? = some (.map #[⟨.string ⟨#[97]⟩, .pointer (some ⟨X2, 0, none⟩), 0⟩] 1) ∧
    w'.heap[X2]? = some (.cells #[.slice (some ⟨g, 0, none⟩) 1 c, lv] 85 (0, 0)) ∧ w'.ownsRow 0 5 1 (.slice (some ⟨g, 0, none⟩) 1 c) 1 [.int .u8 u]
  below : Below w.heap.size w w'

set_option maxRecDepth 100000 in
set_option maxHeartbeats 2000000 in
theorem crash_two (F N L T c X lc cap used K d Z e Y f B cb : Nat) (u : Int) (curb : Array Value) (tn : ByteArray) (cur : Array Value) (w : World) (hO : One F N L T c X lc cap used ⟨#[97]⟩ tn cur w) (hc : 0 < cap) (hX : w.heap[X]? = some (.cells #[.slice (some ⟨B, 0, none⟩) 1 cb, .slice none 0 0] 85 (0, 0))) (hB : w.heap[B]? = some (.cells curb 5 (0, 0))) (hu : curb[0]? = some (.int .u8 u)) (hcb : 1 ≤ cb)
    (hZ : w.heap[Z]? = some (.cells (survCells ⟨#[97]⟩ (.slice (some ⟨Y, 0, none⟩) 1 f)) 58 (0, 0))) (hY : w.heap[Y]? = some (.cells #[.int .i64 0] 3 (0, 0))) (hK : w.heap[K]? = some (.cells #[.int .i64 0] 3 (0, 0))) :
    Calls Try.prog 20 #[.pointer (some ⟨F, 0, none⟩), .slice (some ⟨K, 0, none⟩) 1 d, .slice (some ⟨Z, 0, none⟩) 1 e] w fun e w' => ∃ F2, e = .returned (.pointer (some ⟨F2, 0, none⟩)) ∧ Left2 F2 cap u w w' := by
  have c0 : w.cell? ⟨F, 0, none⟩ = some (.int .i64 cap) := hb_at hO.store 0 rfl
  have HO := Lib.hid hO
  have HX := Lib.hid hX
  have HK := Lib.hid hK
  have HBB := Lib.hid hB
  have HU := Lib.hid hu
  have HZ := Lib.hid hZ
  have HY := Lib.hid hY
  clear hO hX hK hB hu hZ hY
  go_enter Try.func20, Try.ntmps20
  go_upto_region 3 with (first
    | (go_at_call 46; refine (made_yes F cap hc _ (by assumption)).mono ?_; rintro e w' ⟨rfl, rfl⟩)
    | go_in)
  go_upto_region 4 with (first
    | (go_at_call 49; refine (firsts_one Z e Y f ⟨#[97]⟩ _ HZ.out).mono ?_; rintro e w1 ⟨rfl, h1⟩)
    | go_in)
  have HO1 := Lib.hid (HO.out.below h1.below)
  have HM1 := Lib.hid h1.map
  have HB1 := Lib.hid h1.below
  have c1 : w1.cell? ⟨F, 0, none⟩ = some (.int .i64 cap) := hb_at HO1.out.store 0 rfl
  have HX1 := Lib.hid (hb_below HX.out h1.below (hb_lt HX.out))
  have HK1 := Lib.hid (hb_below HK.out h1.below (hb_lt HK.out))
  have HBB1 := Lib.hid (hb_below HBB.out h1.below (hb_lt HBB.out))
  have HY1 := Lib.hid (hb_below HY.out h1.below (hb_lt HY.out))
  clear h1
  go_upto_region 5 with (first
    | (go_at_call 50; refine (kept_one _ Y f ⟨#[97]⟩ _ HM1.out HY1.out).mono ?_; rintro e w2 ⟨rfl, h2⟩)
    | go_in)
  have HO2 := Lib.hid (HO1.out.below h2.below)
  have HB2 := Lib.hid h2.below
  have c2 : w2.cell? ⟨F, 0, none⟩ = some (.int .i64 cap) := hb_at HO2.out.store 0 rfl
  have HX2 := Lib.hid (hb_below HX1.out h2.below (hb_lt HX1.out))
  have HK2 := Lib.hid (hb_below HK1.out h2.below (hb_lt HK1.out))
  have HM2 := Lib.hid (hb_below HM1.out h2.below (hb_lt HM1.out))
  have HBB2 := Lib.hid (hb_below HBB1.out h2.below (hb_lt HBB1.out))
  have HE2 := Lib.hid h2.map
  clear h2
  go_upto_region 6 with (first
    | (go_at_call 32; refine (empty_ok cap _).mono ?_; rintro e w3 ⟨rfl, h3⟩)
    | go_in)
  have HO3 := Lib.hid (HO2.out.below h3.below)
  have H3 := Lib.hid h3
  have HX3 := Lib.hid (hb_below HX2.out h3.below (hb_lt HX2.out))
  have HK3 := Lib.hid (hb_below HK2.out h3.below (hb_lt HK2.out))
  have HM3 := Lib.hid (hb_below HM2.out h3.below (hb_lt HM2.out))
  have HBB3 := Lib.hid (hb_below HBB2.out h3.below (hb_lt HBB2.out))
  have HE3 := Lib.hid (hb_below HE2.out h3.below (hb_lt HE2.out))
  clear h3
  go_wp2_with (first
    | (go_at_call 51; refine (dir_one F N L T c X lc K d cap used ⟨#[97]⟩ tn cur _ HO3.out.store HO3.out.lasting HK3.out HO3.out.turns HO3.out.t0 HO3.out.t1 HO3.out.t2 HO3.out.t3).mono ?_; rintro e w4 ⟨C, rfl, h4⟩; have H4 := Lib.hid h4; clear h4)
    | (at_range; refine wpList_range_raw _ rfl _ 79 rfl 9 78 Try.underlying79 _ _ (lc + 1) rfl H4.out.map ?_; go_frame)
    | go_in)
  have hs3 := H3.out.size
  have HF4 := Lib.hid (hb_below H3.out.store H4.out.below (by omega))
  have HN4 := Lib.hid (hb_below H3.out.names H4.out.below (by omega))
  have HX4 := Lib.hid (hb_below HX3.out H4.out.below (hb_lt HX3.out))
  have HM4 := Lib.hid (hb_below HM3.out H4.out.below (hb_lt HM3.out))
  have HBB4 := Lib.hid (hb_below HBB3.out H4.out.below (hb_lt HBB3.out))
  have HE4 := Lib.hid (hb_below HE3.out H4.out.below (hb_lt HE3.out))
  have hlB := hb_lt HBB4.out
  have hlE := hb_lt HE4.out
  have Hs3 := Lib.hid hs3
  have hl4 := hb_lt HF4.out
  have hlX := hb_lt HX4.out
  have hlM := hb_lt HM4.out
  have hlC := hb_lt H4.out.map
  clear hs3
  refine wp_loop_rounds 2 ?_
  rw [rounds_succ]
  go_upto_region 8 with (first
    | (at_next; refine wpList_next_one _ rfl _ rfl w4.heap.size C (lc + 1) (lc + 1) (lc + 1) _ rfl (heap_alloc_new _ _) (hb_alloc H4.out.map _) (Nat.lt_succ_self _) (Nat.le_refl _) ?_; intro w5 hr5 hg5 hen5)
    | go_in)
  have HX5 := Lib.hid (hb_grown (hb_alloc HX4.out _) hg5 (by simp; omega))
  have HM5 := Lib.hid (hb_grown (hb_alloc HM4.out _) hg5 (by simp; omega))
  have HBB5 := Lib.hid (hb_grown (hb_alloc HBB4.out _) hg5 (by simp; omega))
  have HE5 := Lib.hid (hb_grown (hb_alloc HE4.out _) hg5 (by simp; omega))
  have HF5 := Lib.hid (hb_grown (hb_alloc HF4.out _) hg5 (by simp; omega))
  have HN5 := Lib.hid (hb_grown (hb_alloc HN4.out _) hg5 (by simp; omega))
  have HC5 := Lib.hid (hb_grown (hb_alloc H4.out.map _) hg5 (by simp; omega))
  have HR5 := Lib.hid hr5
  have HB5 := Lib.hid (below_grown (below1 w4 _) hg5 (by simp) (Nat.le_refl _))
  have x1 : w5.cell? ⟨X, 1, none⟩ = some (.slice none 0 0) := hb_at HX5.out 1 rfl
  simp only [] at hen5
  clear hr5 hg5
  go_upto_region 13 with (first
    | (at_lookup; refine wpList_look_raw _ rfl _ _ 91 true rfl 9 58 Try.underlying91 w.heap.size _ 1 rfl HM5.out _ rfl (ck9 _ _ _) _ (find9_a _ _ _) _ (zero58 _) (.tuple #[.agg #[.string ⟨#[97]⟩, .slice (some ⟨Y, 0, none⟩) 1 f, .bool true], .bool true]) rfl ?_)
    | (go_at_call 52; refine (left_one X B cb w1.heap.size u curb _ (hb_alloc HX5.out _) (hb_alloc HBB5.out _) HU.out hcb (hb_alloc HE5.out _)).mono ?_; rintro e w6 ⟨rfl, hO6, hB6⟩)
    | go_in)
  rw [size1] at hO6
  have q10 := hB6.size
  rw [size1] at q10
  have HO6 := Lib.hid (own_of_block hO6)
  have HF6 := Lib.hid (hb_below (hb_alloc HF5.out _) hB6 (by rw [size1]; have := HB5.out.size; omega))
  have HN6 := Lib.hid (hb_below (hb_alloc HN5.out _) hB6 (by rw [size1]; have := HB5.out.size; omega))
  have HC6 := Lib.hid (hb_below (hb_alloc HC5.out _) hB6 (by rw [size1]; have := HB5.out.size; omega))
  have HR6 := Lib.hid (hb_below (hb_alloc HR5.out _) hB6 (by rw [size1]; have := hb_lt HR5.out; omega))
  have HB6 := Lib.hid ((HB5.out.alloc HB5.out.size _).trans (hB6.mono (by rw [size1]; have := HB5.out.size; omega)))
  clear hO6 hB6 x1 hen5
  have e2 : w6.cell? ⟨w2.heap.size + 2, 2, none⟩ = some (.map (some w2.heap.size)) := hb_at HF6.out 2 rfl
  have hone : ∀ v ∈ [Value.int .u8 u], v.oneCell' = true := by simp [Value.oneCell']
  have Hone := Lib.hid hone
  clear hone
  go_cut [53] (fun _ wx => TwoBox w2.heap.size ⟨#[97]⟩ u w6 wx)
  case first =>
    go_region_with (first
      | (go_at_call 45; refine (bclone_form (w5.heap.size + 1) 1 1 [.int .u8 u] w7 HO7.out (by decide) (by decide) Hone.out).mono ?_; rintro e w8 ⟨g2, d2, rfl, h8⟩
         have HN8 := Lib.hid (hb_below HN7.out h8.below (hb_lt HN7.out))
         have HW8 := Lib.hid h8
         have hF8 := hb_below HF7.out h8.below (hb_lt HF7.out)
         have e8 : w8.cell? ⟨w2.heap.size + 2, 2, none⟩ = some (.map (some w2.heap.size)) := hb_at hF8 2 rfl
         have e8a : ∀ o, (w8.alloc o).cell? ⟨w2.heap.size + 2, 2, none⟩ = some (.map (some w2.heap.size)) := fun o => hb_at (hb_alloc hF8 o) 2 rfl
         have hu : ∀ o v, (Instr.mapUpdate 79 (.map (some w2.heap.size)) (.string ⟨#[97]⟩) v).run Try.prog (w8.alloc o) = .ok () (Go.ChangeMaps.setBlock (w8.alloc o) w2.heap.size (.map #[⟨.string ⟨#[97]⟩, v, 0⟩] 1)) :=
           fun o v => run_put_new (es := #[]) (clock := 0) Try.underlying79 (hb_alloc HN8.out o) (ck9 _ _ _) (find9_none _ _)
         clear h8 hF8)
      | (go_at_call 45; refine (bclone_form (w5.heap.size + 1) 1 1 [.int .u8 u] w6.drew HO6.out (by decide) (by decide) Hone.out).mono ?_; rintro e w7 ⟨g1, d1, rfl, h7⟩
         have HO7 := Lib.hid (own_kept (w' := w7) HO6.out (fun g x hg hx => hb_below (w := w6.drew) hx h7.below (hb_lt hx)))
         have HN7 := Lib.hid (hb_below (w := w6.drew) HN6.out h7.below (hb_lt HN6.out))
         have HF7 := Lib.hid (hb_below (w := w6.drew) HF6.out h7.below (hb_lt HF6.out))
         have HW7 := Lib.hid h7
         have e7 : w7.cell? ⟨w2.heap.size + 2, 2, none⟩ = some (.map (some w2.heap.size)) := hb_at HF7.out 2 rfl
         clear h7))
    all_goals (go_wp2_with fail; go_meet; exact two_box ⟨#[97]⟩ HN8.out HW7.out HW8.out)
  case rest =>
    obtain ⟨X2, g1, k1, g2, k2, hN7, hX7, hlX2, hg7, hV7⟩ := hcut
    clear e2
    have q1 := H4.out.new
    have q2 := Hs3.out
    have q3 := HB1.out.size
    have q4 := HB2.out.size
    have q5 := H4.out.below.size
    have HB7 := Lib.hid (below_grown (((((HB1.out.trans (HB2.out.mono q3)).trans (H3.out.below.mono (by omega))).trans (H4.out.below.mono (by omega))).trans (HB6.out.mono (by omega)))) hg7 (by have := HB6.out.size; omega) (by omega : w.heap.size ≤ w2.heap.size))
    have HF7 := Lib.hid (hb_grown HF6.out hg7 (by simp))
    have HC7 := Lib.hid (hb_grown HC6.out hg7 (by simp; omega))
    have HR7 := Lib.hid (hb_grown HR6.out hg7 (by simp; omega))
    have HN7 := Lib.hid hN7
    have HX7 := Lib.hid hX7
    have HV7 := Lib.hid hV7
    have q6 := hb_lt HR6.out
    clear hg7 hN7 hX7 hV7
    have e1 : wc.cell? ⟨w2.heap.size + 2, 1, none⟩ = some (.int .i64 0) := hb_at HF7.out 1 rfl
    have f1 := hb_free HF7.out 1
    go_upto_region 14 with fail
    obtain ⟨wd, hF8, hg8, hwd⟩ : ∃ wd, wd.heap[w2.heap.size + 2]? = some (.cells (fsCells cap 1 w2.heap.size (w2.heap.size + 1) (.slice none 0 0)) 82 (0, 0)) ∧ wc.grownBy wd (some (w2.heap.size + 2)) ∧ wd = wc.setCell ⟨w2.heap.size + 2, 1, none⟩ (.int .i64 1) := ⟨_, hb_set_same HF7.out 1 _, grown_set _ _ _, rfl⟩
    have Hwd := Lib.hid hwd
    have HN8 := Lib.hid (hb_grown HN7.out hg8 (by simp))
    have HC8 := Lib.hid (hb_grown HC7.out hg8 (by simp; omega))
    have HR8 := Lib.hid (hb_grown HR7.out hg8 (by simp; omega))
    have HX8 := Lib.hid (hb_grown HX7.out hg8 (by simp; omega))
    have HB8 := Lib.hid (below_grown HB7.out hg8 (by have := HB7.out.size; omega) (by omega))
    have HV8 := Lib.hid (HV7.out.kept hg8 (.inr fun e => own_ne HV7.out HF7.out (by simp) e.symm))
    have HF8 := Lib.hid hF8
    have HG8 := Lib.hid hg8
    have hl8 := hb_lt hF8
    clear hwd hg8 hF8
    have e2 : wd.cell? ⟨w2.heap.size + 2, 2, none⟩ = some (.map (some w2.heap.size)) := hb_at HF8.out 2 rfl
    have e3 : ∀ o, (wd.alloc o).cell? ⟨w2.heap.size + 2, 3, none⟩ = some (.map (some (w2.heap.size + 1))) := fun o => hb_at (hb_alloc HF8.out o) 3 rfl
    have f3 : ∀ o, (wd.alloc o).frozen? ⟨w2.heap.size + 2, 3, none⟩ = false := fun o => hb_free (hb_alloc HF8.out o) 3
    have q0 : IntKind.i64.wrap 1 = 1 := IntWalk.i64_in _ (by omega)
    go_region_with (go_at_call 53; refine (sectors_one _).mono ?_; rintro e w' ⟨rfl, rfl⟩)
    all_goals
      go_wp2_with fail
      rw [← Hwd.out]
      rw [rounds_succ]
      go_wp2_with (first
        | (at_next; refine wpList_next_done _ rfl _ rfl w4.heap.size C (lc + 1) (lc + 1) (lc + 1) #[lc] _ rfl HR8.out HC8.out (by simp) (Nat.le_refl _) (by simp [leftOf]) ?_)
        | (go_at_call 54; refine (mclone_ok w2.heap.size _ 1 wd.drew HN8.out).mono ?_; rintro e w' ⟨rfl, rfl⟩)
        | go_in)
      go_ret
      have q7 := HB8.out.size
      have q8 := HB6.out.size
      have q9 := HB8.out.setCell (p := ⟨w2.heap.size + 2, 3, none⟩) (by show w.heap.size ≤ w2.heap.size + 2; omega) (.map (some wd.heap.size))
      have q11 : (wd.setCell ⟨w2.heap.size + 2, 3, none⟩ (.map (some wd.heap.size))).ownsRow 0 5 1 (.slice (some ⟨g1, 0, none⟩) 1 k1) 1 [.int .u8 u] := HV8.out.kept (grown_set _ _ _) (.inr fun e => own_ne HV8.out HF8.out (by simp) e.symm)
      exact ⟨_, rfl, ⟨w2.heap.size, wd.heap.size, X2, g1, k1, _, hb_alloc (hb_set_same HF8.out 3 _) _, hb_alloc (hb_set_other HN8.out _ (by simp)) _, hb_alloc (hb_set_other HX8.out _ (by simp; omega)) _, q11.alloc _⟩, (q9.alloc q9.size _).drew⟩
end Go.Proofs.Ytmfphnhdahaooaa
/- Read of the file a behind a crash: no byte, or the one byte that survived. -/
namespace Go.Proofs.Ytmfphnhdahaooaa
open Go.RowKit Go.Maps

theorem nameA : ∀ (k : Nat) (hk : k < (⟨#[97]⟩ : ByteArray).size), NameB (⟨#[97]⟩ : ByteArray)[k] := by
  intro k hk
  have h0 : k = 0 := by
    have : (⟨#[97]⟩ : ByteArray).size = 1 := rfl
    omega
  subst h0
  exact (.inl ⟨by decide, by decide⟩ : NameB 97)

set_option maxRecDepth 100000 in
set_option maxHeartbeats 1000000 in
theorem read_nil (F N L X cap used clock : Nat) (lv tv : Value) (w : World) (hc : 0 < cap) (hF : w.heap[F]? = some (.cells (fsCells cap used N L tv) 82 (0, 0)))
    (hN : w.heap[N]? = some (.map #[⟨.string ⟨#[97]⟩, .pointer (some ⟨X, 0, none⟩), 0⟩] clock)) (hX : w.heap[X]? = some (.cells #[.slice none 0 0, lv] 85 (0, 0))) :
    Calls Try.prog 19 #[.pointer (some ⟨F, 0, none⟩), .string ⟨#[97]⟩] w fun e w' => e = .returned (.tuple #[.slice none 0 0, .int .i64 0]) ∧ w' = w := by
  have c0 : w.cell? ⟨F, 0, none⟩ = some (.int .i64 cap) := hb_at hF 0 rfl
  have c2 : w.cell? ⟨F, 2, none⟩ = some (.map (some N)) := hb_at hF 2 rfl
  have c7 : w.cell? ⟨F, 7, none⟩ = some (.bool false) := hb_at hF 7 rfl
  have x0 : w.cell? ⟨X, 0, none⟩ = some (.slice none 0 0) := hb_at hX 0 rfl
  have HN := Lib.hid hN
  clear hF hN hX
  go_enter Try.func19, Try.ntmps19
  go_wp2_with (first
    | (go_at_call 46; refine (made_yes F cap hc _ (by assumption)).mono ?_; rintro e w' ⟨rfl, rfl⟩)
    | (go_at_call 48; refine (isName_ok ⟨#[97]⟩ _ (by decide) (by decide) nameA).mono ?_; rintro e w' ⟨rfl, rfl⟩)
    | (at_lookup; refine wpList_look_raw _ rfl _ _ 79 true rfl 9 78 Try.underlying79 N _ clock rfl HN.out _ rfl (ck9 _ _ _) _ (find9_a _ _ _) _ (zero78 _) (.tuple #[.pointer (some ⟨X, 0, none⟩), .bool true]) rfl ?_)
    | (go_at_call 45; refine (bclone_nil _).mono ?_; rintro e w' ⟨rfl, rfl⟩)
    | go_in)
  go_ret2
  exact ⟨rfl, rfl⟩

set_option maxRecDepth 100000 in
set_option maxHeartbeats 1000000 in
theorem read_one (F N L X cap used clock g c : Nat) (lv tv : Value) (u : Int) (w : World) (hc : 0 < cap) (hF : w.heap[F]? = some (.cells (fsCells cap used N L tv) 82 (0, 0)))
    (hN : w.heap[N]? = some (.map #[⟨.string ⟨#[97]⟩, .pointer (some ⟨X, 0, none⟩), 0⟩] clock)) (hX : w.heap[X]? = some (.cells #[.slice (some ⟨g, 0, none⟩) 1 c, lv] 85 (0, 0)))
    (hB : w.ownsRow 0 5 1 (.slice (some ⟨g, 0, none⟩) 1 c) 1 [.int .u8 u]) :
    Calls Try.prog 19 #[.pointer (some ⟨F, 0, none⟩), .string ⟨#[97]⟩] w fun e w' => ∃ g2 c2, e = .returned (.tuple #[.slice (some ⟨g2, 0, none⟩) 1 c2, .int .i64 0]) ∧ NewRow (.slice (some ⟨g2, 0, none⟩) 1 c2) 1 [.int .u8 u] w w' := by
  have c0 : w.cell? ⟨F, 0, none⟩ = some (.int .i64 cap) := hb_at hF 0 rfl
  have c2 : w.cell? ⟨F, 2, none⟩ = some (.map (some N)) := hb_at hF 2 rfl
  have c7 : w.cell? ⟨F, 7, none⟩ = some (.bool false) := hb_at hF 7 rfl
  have x0 : w.cell? ⟨X, 0, none⟩ = some (.slice (some ⟨g, 0, none⟩) 1 c) := hb_at hX 0 rfl
  have HN := Lib.hid hN
  have HB := Lib.hid hB
  clear hF hN hX hB
  go_enter Try.func19, Try.ntmps19
  go_wp2_with (first
    | (go_at_call 46; refine (made_yes F cap hc _ (by assumption)).mono ?_; rintro e w' ⟨rfl, rfl⟩)
    | (go_at_call 48; refine (isName_ok ⟨#[97]⟩ _ (by decide) (by decide) nameA).mono ?_; rintro e w' ⟨rfl, rfl⟩)
    | (at_lookup; refine wpList_look_raw _ rfl _ _ 79 true rfl 9 78 Try.underlying79 N _ clock rfl HN.out _ rfl (ck9 _ _ _) _ (find9_a _ _ _) _ (zero78 _) (.tuple #[.pointer (some ⟨X, 0, none⟩), .bool true]) rfl ?_)
    | (go_at_call 45; refine (bclone_form g 1 c [.int .u8 u] _ HB.out (by decide) (by decide) (by simp [Value.oneCell'])).mono ?_; rintro e w' ⟨g2, d2, rfl, h2⟩)
    | go_in)
  go_ret2
  exact ⟨_, _, rfl, h2⟩
end Go.Proofs.Ytmfphnhdahaooaa
