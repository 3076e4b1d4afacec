/- Contracts: Print. -/
import Derived.Test.YtmgnbpgcbehidaaDoorC8
import Derived.Laws.AppendOwn
import Derived.Lib.AppendIntMem
import Derived.Outline
import Derived.Deep.DeepCutAuto
namespace Go.Proofs.YtmgnbpgcbehidaaDoor
open Go.RowKit
abbrev Tab (w : World) : Prop := Lib.TabBelow Tryd.prog w.heap.size w "internal/strconv.uint64pow10" .u64 Lib.pow10Tab
theorem Tab.on {w w' : World} (h : Tab w) (hb : Below w.heap.size w w') : Tab w' := fun u hu => h u (hb.trans (hu.mono hb.size))
theorem itoaI_any (n : Int) (h0 : 0 ≤ n) (h : n ≤ 999999) (w : World) (ht : Tab w) : Calls Tryd.prog 24 #[.int .i64 n] w fun e w' => e = .returned (.string (dgS n)) ∧ Below w.heap.size w w' :=
  (Tryd.strconv_Itoa n (by omega) (by omega) w (Lib.TabBelow.here ht)).mono fun e w' ⟨he, k, os, hw⟩ => ⟨by
    rw [he]
    have e2 : Lib.itoa n = Sv.dg n := by unfold Lib.itoa Sv.dg; rw [if_neg (by omega)]
    rw [e2], by rw [hw]; exact Lib.below_grow _ w (Nat.le_refl _) k os⟩
theorem own_below {w w' : World} {base : Nat} {e : TypeId} {size n : Nat} {v : Value} {xs : List Value} (h : w.ownsRow base e size v n xs) (hb : Below w.heap.size w w') : w'.ownsRow base e size v n xs := by
  obtain ⟨hl, h0 | ⟨g, cap, cur, hv, hbg, hh, r⟩⟩ := h
  · exact ⟨hl, .inl h0⟩
  · exact ⟨hl, .inr ⟨g, cap, cur, hv, hbg, hb_below hh hb (hb_lt hh), r⟩⟩
theorem own_sl {w : World} {base : Nat} {e : TypeId} {size n : Nat} {v : Value} {xs : List Value} (h : w.ownsRow base e size v (n + 1) xs) : ∃ g cap, v = .slice (some ⟨g, 0, none⟩) (n + 1) cap ∧ n + 1 ≤ cap ∧ g < w.heap.size := by
  obtain ⟨_, ⟨_, h0⟩ | ⟨g, cap, cur, hv, _, hh, hc, _⟩⟩ := h
  · omega
  · exact ⟨g, cap, hv, hc, hb_lt hh⟩
theorem info9 : (Tryd.prog.info? 9).map (fun i => (i.zero, i.size, i.bytes)) = some (some (.string ⟨#[]⟩), 1, 16) := by kernel_rfl
theorem info_parts {t : TypeId} {z : Option Value} {n m : Nat} (h : (Tryd.prog.info? t).map (fun i => (i.zero, i.size, i.bytes)) = some (z, n, m)) : ∃ i, Tryd.prog.info? t = some i ∧ i.zero = z ∧ i.size = n ∧ i.bytes = m := by
  cases hi : Tryd.prog.info? t with
  | none => rw [hi] at h; cases h
  | some i =>
    rw [hi] at h
    simp only [Option.map_some, Option.some.injEq, Prod.mk.injEq] at h
    exact ⟨i, rfl, h.1, h.2.1, h.2.2⟩
theorem join3 (a b c : List UInt8) : Lib.join [a, b, c] [46] = a ++ [46] ++ b ++ [46] ++ c := by
  rw [Lib.join_cons]
  simp [Lib.joinTail]
def PrL (A B C : ByteArray) (k : Nat) : List Value := ([A, B, C].take k).map .string
set_option maxRecDepth 100000 in
set_option maxHeartbeats 4000000 in
theorem print_any (x : Sv.V) (w : World) (ht : Tab w) : Calls Tryd.prog 10 #[vv x] w fun e w' => e = .returned (.string (Sv.printS x)) ∧ Below w.heap.size w w' := by
  have hb1 := hb_new w (.cells #[.int .i64 x.a, .int .i64 x.b, .int .i64 x.c] 23)
  have HB := Lib.hid hb1
  have HB0 : RowKit.Hid (Below w.heap.size w (w.alloc (.cells #[.int .i64 x.a, .int .i64 x.b, .int .i64 x.c] 23))) := Lib.hid (below_alloc w _)
  have HLT : RowKit.Hid (w.heap.size < (w.alloc (.cells #[.int .i64 x.a, .int .i64 x.b, .int .i64 x.c] 23)).heap.size) := Lib.hid (by simp)
  clear hb1
  have HTAB := Lib.hid ht
  clear ht
  rcases Bool.eq_false_or_eq_true (Sv.right x) with hr | hr
  rotate_left
  · have HR := Lib.hid hr
    clear hr
    go_enter Tryd.func10, Tryd.ntmps10
    go_wp2_with (go_at_call 12; ((with_reducible refine (right_any x _).mono ?_); rintro e w1 ⟨rfl, hb⟩; rw [HR.out]))
    go_ret
    exact ⟨by rw [Sv.print_no HR.out]; rfl, HB0.out.trans (hb.mono HB0.out.size)⟩
  · have HR := Lib.hid hr
    clear hr
    have i0 := ix0 x
    have i1 := ix1 x
    have i2 := ix2 x
    obtain ⟨⟨a0, a1⟩, ⟨b0, b1⟩, ⟨c0, c1⟩⟩ := Sv.right_yes HR.out
    have HA := Lib.hid (itoaI_any x.a a0 a1)
    have HBB := Lib.hid (itoaI_any x.b b0 b1)
    have HC := Lib.hid (itoaI_any x.c c0 c1)
    have HT : RowKit.Hid ((⟨(Lib.join ([dgS x.a, dgS x.b, dgS x.c].map (·.data.toList)) (⟨#[46]⟩ : ByteArray).data.toList).toArray⟩ : ByteArray) = Sv.printS x) := Lib.hid (by
      rw [Sv.print_yes HR.out]
      show (⟨(Lib.join [(dgS x.a).data.toList, (dgS x.b).data.toList, (dgS x.c).data.toList] [46]).toArray⟩ : ByteArray) = _
      rw [join3]
      simp [Sv.txt, dgS])
    have HLEN : RowKit.Hid ((Lib.join ([dgS x.a, dgS x.b, dgS x.c].map (·.data.toList)) (⟨#[46]⟩ : ByteArray).data.toList).length ≤ 140737488355328) := Lib.hid (by
      show (Lib.join [(dgS x.a).data.toList, (dgS x.b).data.toList, (dgS x.c).data.toList] [46]).length ≤ _
      have e : ∀ n, (dgS n).data.toList = Sv.dg n := fun n => by simp [dgS]
      rw [join3, e, e, e]
      have s1 := Sv.dg_len a0 a1
      have s2 := Sv.dg_len b0 b1
      have s3 := Sv.dg_len c0 c1
      simp only [List.length_append, List.length_singleton]
      omega)
    obtain ⟨f0, hi, hz0, hz1, hz2⟩ := info_parts info9
    have HI := Lib.hid hi
    have HZ0 := Lib.hid hz0
    have HZ1 := Lib.hid hz1
    have HZ2 := Lib.hid hz2
    clear a0 a1 b0 b1 c0 c1 hi hz0 hz1 hz2
    generalize dgS x.a = A at *
    generalize dgS x.b = B at *
    generalize dgS x.c = C at *
    go_enter Tryd.func10, Tryd.ntmps10
    go_wp2_with (first
      | (go_at_call 12; ((with_reducible refine (right_any x _).mono ?_); rintro e w1 ⟨rfl, hb⟩; rw [HR.out]; have c0 := hb_at (hb_below HB.out hb HLT.out) 0 rfl; have c1 := hb_at (hb_below HB.out hb HLT.out) 1 rfl; have c2 := hb_at (hb_below HB.out hb HLT.out) 2 rfl; have HW := Lib.hid (HB0.out.trans (hb.mono HB0.out.size)); clear hb))
      | (go_at_call 23; ((with_reducible refine (numbersOf_any x _).mono ?_); rintro e w2 ⟨rfl, hb⟩; have HW2 := Lib.hid (HW.out.trans (hb.mono HW.out.size)); clear hb)))
    go_loopw [3, 11] (fun v i wr => ∃ k : Nat, k ≤ 3 ∧ i = .int .i64 k ∧ Below w.heap.size w wr ∧ wr.ownsRow w.heap.size 9 1 v k (PrL A B C k)) (fun _ i _ => 3 - (intOf i).toNat)
    case atStart => exact ⟨0, by omega, rfl, HW2.out, World.ownsRow_nil _ _ _ _⟩
    case round =>
      obtain ⟨k, hk, rfl, hbl, hown⟩ := hrel
      have HBL := Lib.hid hbl
      have HOW := Lib.hid hown
      clear hbl hown
      obtain rfl | rfl | rfl | rfl : k = 0 ∨ k = 1 ∨ k = 2 ∨ k = 3 := by omega
      · go_wp2_with (first
          | (go_at_call 24; ((with_reducible refine (HA.out _ (HTAB.out.on HBL.out)).mono ?_); rintro e w3 ⟨rfl, hb⟩; have HO3 := Lib.hid (own_below HOW.out hb); have HB3 := Lib.hid (HBL.out.trans (hb.mono HBL.out.size)); clear hb))
          | (at_builtin; refine wpList_append_own _ rfl _ _ 53 rfl w.heap.size 9 f0 (.string ⟨#[]⟩) 1 16 Tryd.underlying53 HI.out HZ0.out HZ1.out HZ2.out rfl (by decide) _ 0 _ rfl (HO3.out.alloc _) ⟨w3.heap.size, 0, none⟩ 1 1 [.string A] rfl rfl (fun j u hu => (by
              rw [add_zero_none]
              match j, hu with
              | 0, hu => cases hu; exact hb_at (hb_new w3 _) 0 rfl
              | j + 1, hu => simp at hu)) (by simp [Value.oneCell']) (by unfold maxLen; omega) (by omega) (by have := HB3.out.size; simp; omega) ?_; intro v2 w4 hown2 hgrow2 _; have HO4 := Lib.hid hown2; have HG4 := Lib.hid hgrow2; clear hown2 hgrow2))
        have HB4 : Below w.heap.size w w4 := (HB3.out.alloc HB3.out.size _).grown HG4.out (by have := HB3.out.size; simp; omega) (fun j hj => (HO3.out.lt j hj).1)
        exact ⟨⟨0 + 1, by omega, rfl, HB4, HO4.out⟩, by simp [intOf]⟩
      · go_wp2_with (first
          | (go_at_call 24; ((with_reducible refine (HBB.out _ (HTAB.out.on HBL.out)).mono ?_); rintro e w3 ⟨rfl, hb⟩; have HO3 := Lib.hid (own_below HOW.out hb); have HB3 := Lib.hid (HBL.out.trans (hb.mono HBL.out.size)); clear hb))
          | (at_builtin; refine wpList_append_own _ rfl _ _ 53 rfl w.heap.size 9 f0 (.string ⟨#[]⟩) 1 16 Tryd.underlying53 HI.out HZ0.out HZ1.out HZ2.out rfl (by decide) _ 1 _ rfl (HO3.out.alloc _) ⟨w3.heap.size, 0, none⟩ 1 1 [.string B] rfl rfl (fun j u hu => (by
              rw [add_zero_none]
              match j, hu with
              | 0, hu => cases hu; exact hb_at (hb_new w3 _) 0 rfl
              | j + 1, hu => simp at hu)) (by simp [Value.oneCell']) (by unfold maxLen; omega) (by omega) (by have := HB3.out.size; simp; omega) ?_; intro v2 w4 hown2 hgrow2 _; have HO4 := Lib.hid hown2; have HG4 := Lib.hid hgrow2; clear hown2 hgrow2))
        have HB4 : Below w.heap.size w w4 := (HB3.out.alloc HB3.out.size _).grown HG4.out (by have := HB3.out.size; simp; omega) (fun j hj => (HO3.out.lt j hj).1)
        exact ⟨⟨1 + 1, by omega, rfl, HB4, HO4.out⟩, by simp [intOf]⟩
      · go_wp2_with (first
          | (go_at_call 24; ((with_reducible refine (HC.out _ (HTAB.out.on HBL.out)).mono ?_); rintro e w3 ⟨rfl, hb⟩; have HO3 := Lib.hid (own_below HOW.out hb); have HB3 := Lib.hid (HBL.out.trans (hb.mono HBL.out.size)); clear hb))
          | (at_builtin; refine wpList_append_own _ rfl _ _ 53 rfl w.heap.size 9 f0 (.string ⟨#[]⟩) 1 16 Tryd.underlying53 HI.out HZ0.out HZ1.out HZ2.out rfl (by decide) _ 2 _ rfl (HO3.out.alloc _) ⟨w3.heap.size, 0, none⟩ 1 1 [.string C] rfl rfl (fun j u hu => (by
              rw [add_zero_none]
              match j, hu with
              | 0, hu => cases hu; exact hb_at (hb_new w3 _) 0 rfl
              | j + 1, hu => simp at hu)) (by simp [Value.oneCell']) (by unfold maxLen; omega) (by omega) (by have := HB3.out.size; simp; omega) ?_; intro v2 w4 hown2 hgrow2 _; have HO4 := Lib.hid hown2; have HG4 := Lib.hid hgrow2; clear hown2 hgrow2))
        have HB4 : Below w.heap.size w w4 := (HB3.out.alloc HB3.out.size _).grown HG4.out (by have := HB3.out.size; simp; omega) (fun j hj => (HO3.out.lt j hj).1)
        exact ⟨⟨2 + 1, by omega, rfl, HB4, HO4.out⟩, by simp [intOf]⟩
      · obtain ⟨g, cap, rfl, hcap, hg⟩ := own_sl (n := 2) HOW.out
        have hcells : ∀ (j : Nat) y, [A, B, C][j]? = some y → wr.cell? ⟨g, 0 + j, none⟩ = some (.string y) := fun j y hy => by
          have h := HOW.out.cells (g := g) rfl j (.string y) (by
            show (([A, B, C].take 3).map Value.string)[j]? = some (.string y)
            rw [List.getElem?_map]
            show Option.map Value.string ([A, B, C][j]?) = _
            rw [hy]; rfl)
          rw [add_zero_none] at h
          rwa [Nat.zero_add]
        have HJ := Lib.hid (Tryd.strings_Join g 0 cap [A, B, C] ⟨#[46]⟩ wr hcells hg (by simp) hcap HLEN.out)
        clear hcells
        go_wp2_with (go_at_call 25; refine HJ.out.mono ?_; rintro e w5 ⟨rfl, hb⟩)
        go_ret
        exact ⟨by rw [← HT.out]; rfl, HBL.out.trans (hb.mono HBL.out.size)⟩
end Go.Proofs.YtmgnbpgcbehidaaDoor
