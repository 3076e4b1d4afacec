/- The texts Kk, Kl, Km, Kn, Ko, one behind the other. -/
import Derived.Test.YtmfphnhdahaooaaM28
import Derived.Outline
set_option linter.unusedSimpArgs false
set_option linter.unusedVariables false
/- The document's own store: with. -/
namespace Go.Proofs.Ytmfphnhdahaooaa
open Go.RowKit Go.Maps
set_option linter.unusedSimpArgs false
set_option linter.unusedVariables false
theorem wo_mem {es : List En} {s : ByteArray} {x : En} (h : x ∈ woE es s) : x ∈ es := (List.mem_filter.1 h).1
def WithP (es : List En) (f : Nat) (w : World) (e : Ending) (w' : World) : Prop := ∃ v es2, e = .returned v ∧ RowE w' w.heap.size v es2 ∧ es2.length ≤ es.length + 1 ∧ (∀ x ∈ es2, x ∈ es ∨ x.f = f) ∧ Below w.heap.size w w'
set_option maxRecDepth 100000 in
set_option maxHeartbeats 4000000 in
theorem rwith_any {w : World} {ao0 : Option Addr} {es0 : List En} {c0 : Nat} (h : Ents w ao0 es0) (hl : es0.length ≤ 90000) (s : ByteArray) (f : Nat) :
    Calls Try.prog 74 #[.slice ao0 es0.length c0, .string s, .int .i64 f] w (WithP es0 f w) := by
  have H := Lib.hid h
  obtain ⟨len0, hlen0⟩ : ∃ n, n = es0.length := ⟨_, rfl⟩
  have HC := Lib.hid (rwithout_any (c := c0) h (by omega) s)
  rw [← hlen0] at hl HC ⊢
  have HLEN0 := Lib.hid hlen0
  clear h hlen0
  go_enter Try.func74, Try.ntmps74
  go_upto_region 2 with (first
    | (go_at_call 75; refine HC.out.mono ?_; rintro e w1 ⟨v1, rfl, hr1, hb1⟩; obtain ⟨ao, c, rfl, hlc⟩ := own_sl hr1)
    | go_in)
  have HE := Lib.hid (ents_row hr1)
  have HWL : RowKit.Hid ((woE es0 s).length ≤ len0) := Lib.hid (by have := wo_len es0 s; have := HLEN0.out; omega)
  have HB := Lib.hid hb1
  have HZ := Lib.hid hb1.size
  have HSP : RowKit.Hid (∀ a, ao = some a → a.spot = none ∧ a.block < w1.heap.size) := Lib.hid (fun a ha => by
    subst ha
    rcases hr1.2 with ⟨e, _⟩ | ⟨g, cap, cur, e, _, hb, _⟩
    · simp at e
    · simp at e; rw [e.1]; exact ⟨rfl, hb_lt hb⟩)
  have HNONE : RowKit.Hid (ao = none → (woE es0 s).length = 0 ∧ c = 0) := Lib.hid (fun ha => by
    subst ha
    rcases hr1.2 with ⟨e, h0⟩ | ⟨g, cap, cur, e, _⟩
    · simp at e; exact ⟨h0, e.2⟩
    · simp at e)
  have hz1 := hb1.size
  clear hb1 hr1 HC
  obtain ⟨es, hes⟩ : ∃ es, es = woE es0 s := ⟨_, rfl⟩
  obtain ⟨len, hlen⟩ : ∃ n, n = (woE es0 s).length := ⟨_, rfl⟩
  have HES := Lib.hid hes
  have HLEN := Lib.hid hlen
  have hlb : len ≤ 90000 := by have := HWL.out; omega
  rw [← hlen] at hlc ⊢
  rw [← HES.out] at HE
  have HEL : RowKit.Hid (es.length = len) := Lib.hid (by rw [HES.out]; exact hlen.symm)
  clear hes hlen
  go_wp2
  go_loopw [7] (fun i wr => ∃ k : Nat, k ≤ len ∧ i = .int .i64 k ∧ w1 = wr) (fun i _ => len - (intOf i).toNat)
  case atStart => exact ⟨0, Nat.zero_le _, rfl, rfl⟩
  case round =>
    obtain ⟨k, hk, rfl, rfl⟩ := hrel
    have hexit : True := trivial
    by_cases hlt : k < len
    · obtain ⟨e, he⟩ : ∃ e, es[k]? = some e := ⟨_, List.getElem?_eq_getElem (by rw [HES.out]; have := HLEN.out; omega)⟩
      obtain ⟨b, off, rfl, d0, d1⟩ := HE.out k e he
      have hlt2 : (k : Int) < (len : Int) := by omega
      clear he d1
      cases hcmp : Op.bytesLess e.name.toList s.toList
      · go_upto_region 5 with fail
        clear hcmp d0
        have hck : ¬ c = k := by omega
        have hkc : k ≤ c := by omega
        refine Inv.regionP (by kernel_rfl) ?_
        refine Inv.take1 (i := 10) (oi := ⟨some 36, _, _, _, _, _⟩) (v := (.slice (some ⟨b, off, none⟩) len c)) [10] rfl (by kernel_rfl) (by kernel_rfl) (by kernel_rfl) (fun _ _ _ h => h) (Or.inl ⟨by rfl, ?_⟩) (by kernel_rfl) ?_
        · intro w'
          go_simp
        simp only [Act.put, List.setIfInBounds_toArray, List.set_cons_zero, List.set_cons_succ]
        refine Inv.take1 (i := 11) (oi := ⟨some 37, _, _, _, _, _⟩) (v := (.int .i64 k)) [10, 11] rfl (by kernel_rfl) (by kernel_rfl) (by kernel_rfl) (fun _ _ _ h => h) (Or.inl ⟨by rfl, ?_⟩) (by kernel_rfl) ?_
        · intro w'
          go_simp
        simp only [Act.put, List.setIfInBounds_toArray, List.set_cons_zero, List.set_cons_succ]
        refine Inv.take1 (i := 12) (oi := ⟨some 38, _, _, _, _, _⟩) (v := (.slice (some ⟨b, off + k * 2, none⟩) (len - k) (c - k))) [10, 11, 12] rfl (by kernel_rfl) (by kernel_rfl) (by kernel_rfl) (fun _ _ _ h => h) (Or.inl ⟨by rfl, ?_⟩) (by kernel_rfl) ?_
        · intro w'
          go_simp
        simp only [Act.put, List.setIfInBounds_toArray, List.set_cons_zero, List.set_cons_succ]
        refine Inv.regionT [0, 1, 2, 3, 4, 5, 6, 7, 8] [10, 11, 12] 9 [13, 14] [some 26, some 27, some 28, some 29, some 30, some 31, some 32, some 33, some 34, some 35, some 36, some 37, some 38, some 39, some 6] [[], [], [], [1, 2], [0, 3], [], [], [5, 6], [7]] (by kernel_rfl) (by kernel_rfl) (by kernel_rfl) (by kernel_rfl) (by kernel_rfl) [Inv.MP.made0 w1.heap.size 115, Inv.MP.is (.slice (some ⟨b, off, none⟩) len c), Inv.MP.is (.int .i64 k), Inv.MP.is (.slice (some ⟨b, off, none⟩) k c), Inv.MP.rowE w1.heap.size (es.take k), Inv.MP.is (.string s), Inv.MP.is (.int .i64 f), Inv.MP.is (.agg #[.string s, .int .i64 f]), Inv.MP.made #[.string s, .int .i64 f] 115 1] [] (by intro x hx; cases hx) _ (by kernel_rfl) ⟨?_, ?_, ?_, ?_, ?_, ?_, ?_, ?_, ?_, trivial⟩ (fun vs wq hbq hv htie => ?_)
        · intro vs w' hb hv K hK
          clear hv
          have hK2 := hK.out
          clear hK
          simp only [Inv.putD, Inv.dst, List.foldl_cons, List.foldl_nil, List.getD_cons_zero, List.getD_cons_succ, Act.put, List.setIfInBounds_toArray, List.set_cons_zero, List.set_cons_succ, List.filterMap_cons, List.filterMap_nil, List.getElem?_toArray, List.getElem?_cons_zero, List.getElem?_cons_succ] at hK2 ⊢
          have hK := Lib.hid hK2
          clear hK2
          simp only [Region.wanted, Inv.yieldedD, Inv.dst, List.getD_cons_zero, List.getD_cons_succ]
          go_simp
          refine hK.out _ _ ⟨_, rfl, hb.size, hb_new _ _⟩ (below_alloc _ _) (Inv.noTies _ _ _ _ _)
        · intro vs w' hb hv K hK
          clear hv
          have hK2 := hK.out
          clear hK
          simp only [Inv.putD, Inv.dst, List.foldl_cons, List.foldl_nil, List.getD_cons_zero, List.getD_cons_succ, Act.put, List.setIfInBounds_toArray, List.set_cons_zero, List.set_cons_succ, List.filterMap_cons, List.filterMap_nil, List.getElem?_toArray, List.getElem?_cons_zero, List.getElem?_cons_succ] at hK2 ⊢
          have hK := Lib.hid hK2
          clear hK2
          simp only [Region.wanted, Inv.yieldedD, Inv.dst, List.getD_cons_zero, List.getD_cons_succ]
          go_simp
          refine hK.out _ _ (Eq.refl _) (Below.refl _ _) (Inv.noTies _ _ _ _ _)
        · intro vs w' hb hv K hK
          clear hv
          have hK2 := hK.out
          clear hK
          simp only [Inv.putD, Inv.dst, List.foldl_cons, List.foldl_nil, List.getD_cons_zero, List.getD_cons_succ, Act.put, List.setIfInBounds_toArray, List.set_cons_zero, List.set_cons_succ, List.filterMap_cons, List.filterMap_nil, List.getElem?_toArray, List.getElem?_cons_zero, List.getElem?_cons_succ] at hK2 ⊢
          have hK := Lib.hid hK2
          clear hK2
          simp only [Region.wanted, Inv.yieldedD, Inv.dst, List.getD_cons_zero, List.getD_cons_succ]
          go_simp
          refine hK.out _ _ (Eq.refl _) (Below.refl _ _) (Inv.noTies _ _ _ _ _)
        · intro vs w' hb hv K hK
          have h1 : (Inv.MP.is (.slice (some ⟨b, off, none⟩) len c)).p (vs 1) w' := hv 1 (by simp)
          have h2 : (Inv.MP.is (.int .i64 k)).p (vs 2) w' := hv 2 (by simp)
          clear hv
          have hK2 := hK.out
          clear hK
          simp only [Inv.putD, Inv.dst, List.foldl_cons, List.foldl_nil, List.getD_cons_zero, List.getD_cons_succ, Act.put, List.setIfInBounds_toArray, List.set_cons_zero, List.set_cons_succ, List.filterMap_cons, List.filterMap_nil, List.getElem?_toArray, List.getElem?_cons_zero, List.getElem?_cons_succ] at hK2 ⊢
          have hK := Lib.hid hK2
          clear hK2
          generalize vs 1 = y1 at *
          generalize vs 2 = y2 at *
          have h1 : y1 = _ := h1
          subst h1
          have h2 : y2 = _ := h2
          subst h2
          simp only [Region.wanted, Inv.yieldedD, Inv.dst, List.getD_cons_zero, List.getD_cons_succ]
          go_simp
          refine hK.out _ _ (Eq.refl _) (Below.refl _ _) (Inv.noTies _ _ _ _ _)
        · intro vs w' hb hv K hK
          have h0 : (Inv.MP.made0 w1.heap.size 115).p (vs 0) w' := hv 0 (by simp)
          have h3 : (Inv.MP.is (.slice (some ⟨b, off, none⟩) k c)).p (vs 3) w' := hv 3 (by simp)
          clear hv
          have hK2 := hK.out
          clear hK
          simp only [Inv.putD, Inv.dst, List.foldl_cons, List.foldl_nil, List.getD_cons_zero, List.getD_cons_succ, Act.put, List.setIfInBounds_toArray, List.set_cons_zero, List.set_cons_succ, List.filterMap_cons, List.filterMap_nil, List.getElem?_toArray, List.getElem?_cons_zero, List.getElem?_cons_succ] at hK2 ⊢
          have hK := Lib.hid hK2
          clear hK2
          generalize vs 0 = y0 at *
          generalize vs 3 = y3 at *
          obtain ⟨g0, rfl, hg1, hg2⟩ := h0
          have h3 : y3 = _ := h3
          subst h3
          simp only [Region.wanted, if_true]
          have hlk : (es.take k).length = k := by rw [List.length_take, HEL.out]; omega
          obtain ⟨v2, w2, hr2, ho2, hb2⟩ := append_e0 w' w1.heap.size g0 (some ⟨b, off, none⟩) c (es.take k) hg2 hg1 ((HE.out.below hb).take k) (fun a h => (HSP.out a h).1) (by rw [hlk]; omega)
          rw [hlk] at hr2
          refine oper_append_at (.tmp 26) (.tmp 29) rfl rfl rfl rfl hr2 ?_
          exact hK.out _ _ ho2 hb2 (Inv.noTies _ _ _ _ _)
        · intro vs w' hb hv K hK
          clear hv
          have hK2 := hK.out
          clear hK
          simp only [Inv.putD, Inv.dst, List.foldl_cons, List.foldl_nil, List.getD_cons_zero, List.getD_cons_succ, Act.put, List.setIfInBounds_toArray, List.set_cons_zero, List.set_cons_succ, List.filterMap_cons, List.filterMap_nil, List.getElem?_toArray, List.getElem?_cons_zero, List.getElem?_cons_succ] at hK2 ⊢
          have hK := Lib.hid hK2
          clear hK2
          simp only [Region.wanted, Inv.yieldedD, Inv.dst, List.getD_cons_zero, List.getD_cons_succ]
          go_simp
          refine hK.out _ _ (Eq.refl _) (Below.refl _ _) (Inv.noTies _ _ _ _ _)
        · intro vs w' hb hv K hK
          clear hv
          have hK2 := hK.out
          clear hK
          simp only [Inv.putD, Inv.dst, List.foldl_cons, List.foldl_nil, List.getD_cons_zero, List.getD_cons_succ, Act.put, List.setIfInBounds_toArray, List.set_cons_zero, List.set_cons_succ, List.filterMap_cons, List.filterMap_nil, List.getElem?_toArray, List.getElem?_cons_zero, List.getElem?_cons_succ] at hK2 ⊢
          have hK := Lib.hid hK2
          clear hK2
          simp only [Region.wanted, Inv.yieldedD, Inv.dst, List.getD_cons_zero, List.getD_cons_succ]
          go_simp
          refine hK.out _ _ (Eq.refl _) (Below.refl _ _) (Inv.noTies _ _ _ _ _)
        · intro vs w' hb hv K hK
          have h5 : (Inv.MP.is (.string s)).p (vs 5) w' := hv 5 (by simp)
          have h6 : (Inv.MP.is (.int .i64 f)).p (vs 6) w' := hv 6 (by simp)
          clear hv
          have hK2 := hK.out
          clear hK
          simp only [Inv.putD, Inv.dst, List.foldl_cons, List.foldl_nil, List.getD_cons_zero, List.getD_cons_succ, Act.put, List.setIfInBounds_toArray, List.set_cons_zero, List.set_cons_succ, List.filterMap_cons, List.filterMap_nil, List.getElem?_toArray, List.getElem?_cons_zero, List.getElem?_cons_succ] at hK2 ⊢
          have hK := Lib.hid hK2
          clear hK2
          generalize vs 5 = y5 at *
          generalize vs 6 = y6 at *
          have h5 : y5 = _ := h5
          subst h5
          have h6 : y6 = _ := h6
          subst h6
          simp only [Region.wanted, Inv.yieldedD, Inv.dst, List.getD_cons_zero, List.getD_cons_succ]
          go_simp
          refine hK.out _ _ (Eq.refl _) (Below.refl _ _) (Inv.noTies _ _ _ _ _)
        · intro vs w' hb hv K hK
          have h7 : (Inv.MP.is (.agg #[.string s, .int .i64 f])).p (vs 7) w' := hv 7 (by simp)
          clear hv
          have hK2 := hK.out
          clear hK
          simp only [Inv.putD, Inv.dst, List.foldl_cons, List.foldl_nil, List.getD_cons_zero, List.getD_cons_succ, Act.put, List.setIfInBounds_toArray, List.set_cons_zero, List.set_cons_succ, List.filterMap_cons, List.filterMap_nil, List.getElem?_toArray, List.getElem?_cons_zero, List.getElem?_cons_succ] at hK2 ⊢
          have hK := Lib.hid hK2
          clear hK2
          generalize vs 7 = y7 at *
          have h7 : y7 = _ := h7
          subst h7
          simp only [Region.wanted, Inv.yieldedD, Inv.dst, List.getD_cons_zero, List.getD_cons_succ]
          go_simp
          refine hK.out _ _ ⟨_, rfl, hb_new _ _⟩ (below_alloc _ _) (Inv.noTies _ _ _ _ _)
        · have h4 : RowE wq w1.heap.size (vs 4) (es.take k) := hv 4 (by simp)
          have h8 : ∃ g, vs 8 = .slice (some ⟨g, 0, none⟩) 1 1 ∧ wq.heap[g]? = some (.cells #[.string s, .int .i64 f] 115 (0, 0)) := hv 8 (by simp)
          clear hv htie
          simp only [Inv.putD, Inv.dst, List.foldl_cons, List.foldl_nil, List.getD_cons_zero, List.getD_cons_succ, Act.put, List.setIfInBounds_toArray, List.set_cons_zero, List.set_cons_succ, List.filterMap_cons, List.filterMap_nil, List.getElem?_toArray, List.getElem?_cons_zero, List.getElem?_cons_succ]
          generalize vs 0 = yy0 at *
          generalize vs 1 = yy1 at *
          generalize vs 2 = yy2 at *
          generalize vs 3 = yy3 at *
          generalize vs 4 = yy4 at *
          generalize vs 5 = yy5 at *
          generalize vs 6 = yy6 at *
          generalize vs 7 = yy7 at *
          generalize vs 8 = yy8 at *
          obtain ⟨g8, rfl, hg8⟩ := h8
          have he8 : Ents wq (some ⟨g8, 0, none⟩) [⟨s, f⟩] := fun i e he => by
            match i, he with
            | 0, he => cases he; exact ⟨g8, 0, rfl, hb_at hg8 0 rfl, hb_at hg8 1 rfl⟩
            | i + 1, he => simp at he
          have hsz := hbq.size
          obtain ⟨v5, w5, hr5, ho5, hg5⟩ := append_e wq w1.heap.size _ _ 1 (es.take k) [⟨s, f⟩] h4 he8 (fun a h => by cases h; rfl) (by rw [List.length_take, HEL.out]; simp <;> omega) hsz
          have hdr : Ents w5 (some ⟨b, off + k * 2, none⟩) (es.drop k) := (Ents.drop (k := k) (HE.out.below hbq)).grown (B := w1.heap.size) (fun a h => by cases h; exact (HSP.out _ rfl).2) hg5 (fun j hj => (h4.lt j hj).1)
          have hdl : (es.drop k).length = len - k := by have := HEL.out; rw [List.length_drop]; omega
          obtain ⟨v6, w6, hr6, ho6, hg6⟩ := append_e w5 w1.heap.size v5 (some ⟨b, off + k * 2, none⟩) (c - k) (es.take k ++ [⟨s, f⟩]) (es.drop k) ho5 hdr (fun a h => by cases h; rfl) (by rw [hdl, List.length_append, List.length_take, HEL.out]; simp <;> omega) (Nat.le_trans hsz hg5.size)
          rw [hdl] at hr6
          have hB5 : Below w1.heap.size w1 w5 := hbq.grown hg5 hsz (fun j hj => (h4.lt j hj).1)
          have hB6 : Below w1.heap.size w1 w6 := hB5.grown hg6 hB5.size (fun j hj => (ho5.lt j hj).1)
          refine wpList_append_at rfl (.tmp 30) (.tmp 34) rfl rfl rfl rfl hr5 ?_
          refine wpList_append_at rfl (.tmp 35) (.tmp 38) rfl rfl rfl rfl hr6 ?_
          clear hr5 hr6 hdr h4 hg8 he8 hg5 hg6 hbq
          have HO6 := Lib.hid ho6
          have HB6 := Lib.hid hB6
          clear ho6 ho5 hB5 hB6
          go_wp2
          go_ret
          exact ⟨_, _, rfl, own_base HO6.out HZ.out, by have := HLEN.out; have := HWL.out; have := HEL.out; have := HLEN0.out; simp <;> omega, fun x hx => by
            rcases List.mem_append.1 hx with hx | hx
            · rcases List.mem_append.1 hx with hx | hx
              · exact .inl (wo_mem (by rw [← HES.out]; exact List.mem_of_mem_take hx))
              · exact .inr (by rw [List.mem_singleton.1 hx])
            · exact .inl (wo_mem (by rw [← HES.out]; exact List.mem_of_mem_drop hx)), HB.out.trans (HB6.out.mono HZ.out)⟩
      · go_wp2
        go_roundw
        case rel => exact ⟨k + 1, by omega, by go_num, by first | rfl | trivial⟩
        case measure => simp [intOf]; omega
    · obtain rfl : k = len := by omega
      cases ao with
      | none =>
        obtain ⟨h00, rfl⟩ := HNONE.out rfl
        rw [← HLEN.out] at h00
        subst h00
        go_upto_region 5 with fail
        refine Inv.regionP (by kernel_rfl) ?_
        refine Inv.take1 (i := 10) (oi := ⟨some 36, _, _, _, _, _⟩) (v := (.slice none 0 0)) [10] rfl (by kernel_rfl) (by kernel_rfl) (by kernel_rfl) (fun _ _ _ h => h) (Or.inl ⟨by rfl, ?_⟩) (by kernel_rfl) ?_
        · intro w'
          go_simp
        simp only [Act.put, List.setIfInBounds_toArray, List.set_cons_zero, List.set_cons_succ]
        refine Inv.take1 (i := 11) (oi := ⟨some 37, _, _, _, _, _⟩) (v := (.int .i64 0)) [10, 11] rfl (by kernel_rfl) (by kernel_rfl) (by kernel_rfl) (fun _ _ _ h => h) (Or.inl ⟨by rfl, ?_⟩) (by kernel_rfl) ?_
        · intro w'
          go_simp
        simp only [Act.put, List.setIfInBounds_toArray, List.set_cons_zero, List.set_cons_succ]
        refine Inv.take1 (i := 12) (oi := ⟨some 38, _, _, _, _, _⟩) (v := (.slice none 0 0)) [10, 11, 12] rfl (by kernel_rfl) (by kernel_rfl) (by kernel_rfl) (fun _ _ _ h => h) (Or.inl ⟨by rfl, ?_⟩) (by kernel_rfl) ?_
        · intro w'
          go_simp
        simp only [Act.put, List.setIfInBounds_toArray, List.set_cons_zero, List.set_cons_succ]
        refine Inv.regionT [0, 1, 2, 3, 4, 5, 6, 7, 8] [10, 11, 12] 9 [13, 14] [some 26, some 27, some 28, some 29, some 30, some 31, some 32, some 33, some 34, some 35, some 36, some 37, some 38, some 39, some 6] [[], [], [], [1, 2], [0, 3], [], [], [5, 6], [7]] (by kernel_rfl) (by kernel_rfl) (by kernel_rfl) (by kernel_rfl) (by kernel_rfl) [Inv.MP.made0 w1.heap.size 115, Inv.MP.is (.slice none 0 0), Inv.MP.is (.int .i64 0), Inv.MP.is (.slice none 0 0), Inv.MP.rowE w1.heap.size (es.take 0), Inv.MP.is (.string s), Inv.MP.is (.int .i64 f), Inv.MP.is (.agg #[.string s, .int .i64 f]), Inv.MP.made #[.string s, .int .i64 f] 115 1] [] (by intro x hx; cases hx) _ (by kernel_rfl) ⟨?_, ?_, ?_, ?_, ?_, ?_, ?_, ?_, ?_, trivial⟩ (fun vs wq hbq hv htie => ?_)
        · intro vs w' hb hv K hK
          clear hv
          have hK2 := hK.out
          clear hK
          simp only [Inv.putD, Inv.dst, List.foldl_cons, List.foldl_nil, List.getD_cons_zero, List.getD_cons_succ, Act.put, List.setIfInBounds_toArray, List.set_cons_zero, List.set_cons_succ, List.filterMap_cons, List.filterMap_nil, List.getElem?_toArray, List.getElem?_cons_zero, List.getElem?_cons_succ] at hK2 ⊢
          have hK := Lib.hid hK2
          clear hK2
          simp only [Region.wanted, Inv.yieldedD, Inv.dst, List.getD_cons_zero, List.getD_cons_succ]
          go_simp
          refine hK.out _ _ ⟨_, rfl, hb.size, hb_new _ _⟩ (below_alloc _ _) (Inv.noTies _ _ _ _ _)
        · intro vs w' hb hv K hK
          clear hv
          have hK2 := hK.out
          clear hK
          simp only [Inv.putD, Inv.dst, List.foldl_cons, List.foldl_nil, List.getD_cons_zero, List.getD_cons_succ, Act.put, List.setIfInBounds_toArray, List.set_cons_zero, List.set_cons_succ, List.filterMap_cons, List.filterMap_nil, List.getElem?_toArray, List.getElem?_cons_zero, List.getElem?_cons_succ] at hK2 ⊢
          have hK := Lib.hid hK2
          clear hK2
          simp only [Region.wanted, Inv.yieldedD, Inv.dst, List.getD_cons_zero, List.getD_cons_succ]
          go_simp
          refine hK.out _ _ (Eq.refl _) (Below.refl _ _) (Inv.noTies _ _ _ _ _)
        · intro vs w' hb hv K hK
          clear hv
          have hK2 := hK.out
          clear hK
          simp only [Inv.putD, Inv.dst, List.foldl_cons, List.foldl_nil, List.getD_cons_zero, List.getD_cons_succ, Act.put, List.setIfInBounds_toArray, List.set_cons_zero, List.set_cons_succ, List.filterMap_cons, List.filterMap_nil, List.getElem?_toArray, List.getElem?_cons_zero, List.getElem?_cons_succ] at hK2 ⊢
          have hK := Lib.hid hK2
          clear hK2
          simp only [Region.wanted, Inv.yieldedD, Inv.dst, List.getD_cons_zero, List.getD_cons_succ]
          go_simp
          refine hK.out _ _ (Eq.refl _) (Below.refl _ _) (Inv.noTies _ _ _ _ _)
        · intro vs w' hb hv K hK
          have h1 : (Inv.MP.is (.slice none 0 0)).p (vs 1) w' := hv 1 (by simp)
          have h2 : (Inv.MP.is (.int .i64 0)).p (vs 2) w' := hv 2 (by simp)
          clear hv
          have hK2 := hK.out
          clear hK
          simp only [Inv.putD, Inv.dst, List.foldl_cons, List.foldl_nil, List.getD_cons_zero, List.getD_cons_succ, Act.put, List.setIfInBounds_toArray, List.set_cons_zero, List.set_cons_succ, List.filterMap_cons, List.filterMap_nil, List.getElem?_toArray, List.getElem?_cons_zero, List.getElem?_cons_succ] at hK2 ⊢
          have hK := Lib.hid hK2
          clear hK2
          generalize vs 1 = y1 at *
          generalize vs 2 = y2 at *
          have h1 : y1 = _ := h1
          subst h1
          have h2 : y2 = _ := h2
          subst h2
          simp only [Region.wanted, Inv.yieldedD, Inv.dst, List.getD_cons_zero, List.getD_cons_succ]
          go_simp
          refine hK.out _ _ (Eq.refl _) (Below.refl _ _) (Inv.noTies _ _ _ _ _)
        · intro vs w' hb hv K hK
          have h0 : (Inv.MP.made0 w1.heap.size 115).p (vs 0) w' := hv 0 (by simp)
          have h3 : (Inv.MP.is (.slice none 0 0)).p (vs 3) w' := hv 3 (by simp)
          clear hv
          have hK2 := hK.out
          clear hK
          simp only [Inv.putD, Inv.dst, List.foldl_cons, List.foldl_nil, List.getD_cons_zero, List.getD_cons_succ, Act.put, List.setIfInBounds_toArray, List.set_cons_zero, List.set_cons_succ, List.filterMap_cons, List.filterMap_nil, List.getElem?_toArray, List.getElem?_cons_zero, List.getElem?_cons_succ] at hK2 ⊢
          have hK := Lib.hid hK2
          clear hK2
          generalize vs 0 = y0 at *
          generalize vs 3 = y3 at *
          obtain ⟨g0, rfl, hg1, hg2⟩ := h0
          have h3 : y3 = _ := h3
          subst h3
          simp only [Region.wanted, if_true]
          have hlk : (es.take 0).length = 0 := by rw [List.length_take, HEL.out]; omega
          obtain ⟨v2, w2, hr2, ho2, hb2⟩ := append_e0 w' w1.heap.size g0 none 0 (es.take 0) hg2 hg1 ((HE.out.below hb).take 0) (fun a h => (HSP.out a h).1) (by rw [hlk]; omega)
          rw [hlk] at hr2
          refine oper_append_at (.tmp 26) (.tmp 29) rfl rfl rfl rfl hr2 ?_
          exact hK.out _ _ ho2 hb2 (Inv.noTies _ _ _ _ _)
        · intro vs w' hb hv K hK
          clear hv
          have hK2 := hK.out
          clear hK
          simp only [Inv.putD, Inv.dst, List.foldl_cons, List.foldl_nil, List.getD_cons_zero, List.getD_cons_succ, Act.put, List.setIfInBounds_toArray, List.set_cons_zero, List.set_cons_succ, List.filterMap_cons, List.filterMap_nil, List.getElem?_toArray, List.getElem?_cons_zero, List.getElem?_cons_succ] at hK2 ⊢
          have hK := Lib.hid hK2
          clear hK2
          simp only [Region.wanted, Inv.yieldedD, Inv.dst, List.getD_cons_zero, List.getD_cons_succ]
          go_simp
          refine hK.out _ _ (Eq.refl _) (Below.refl _ _) (Inv.noTies _ _ _ _ _)
        · intro vs w' hb hv K hK
          clear hv
          have hK2 := hK.out
          clear hK
          simp only [Inv.putD, Inv.dst, List.foldl_cons, List.foldl_nil, List.getD_cons_zero, List.getD_cons_succ, Act.put, List.setIfInBounds_toArray, List.set_cons_zero, List.set_cons_succ, List.filterMap_cons, List.filterMap_nil, List.getElem?_toArray, List.getElem?_cons_zero, List.getElem?_cons_succ] at hK2 ⊢
          have hK := Lib.hid hK2
          clear hK2
          simp only [Region.wanted, Inv.yieldedD, Inv.dst, List.getD_cons_zero, List.getD_cons_succ]
          go_simp
          refine hK.out _ _ (Eq.refl _) (Below.refl _ _) (Inv.noTies _ _ _ _ _)
        · intro vs w' hb hv K hK
          have h5 : (Inv.MP.is (.string s)).p (vs 5) w' := hv 5 (by simp)
          have h6 : (Inv.MP.is (.int .i64 f)).p (vs 6) w' := hv 6 (by simp)
          clear hv
          have hK2 := hK.out
          clear hK
          simp only [Inv.putD, Inv.dst, List.foldl_cons, List.foldl_nil, List.getD_cons_zero, List.getD_cons_succ, Act.put, List.setIfInBounds_toArray, List.set_cons_zero, List.set_cons_succ, List.filterMap_cons, List.filterMap_nil, List.getElem?_toArray, List.getElem?_cons_zero, List.getElem?_cons_succ] at hK2 ⊢
          have hK := Lib.hid hK2
          clear hK2
          generalize vs 5 = y5 at *
          generalize vs 6 = y6 at *
          have h5 : y5 = _ := h5
          subst h5
          have h6 : y6 = _ := h6
          subst h6
          simp only [Region.wanted, Inv.yieldedD, Inv.dst, List.getD_cons_zero, List.getD_cons_succ]
          go_simp
          refine hK.out _ _ (Eq.refl _) (Below.refl _ _) (Inv.noTies _ _ _ _ _)
        · intro vs w' hb hv K hK
          have h7 : (Inv.MP.is (.agg #[.string s, .int .i64 f])).p (vs 7) w' := hv 7 (by simp)
          clear hv
          have hK2 := hK.out
          clear hK
          simp only [Inv.putD, Inv.dst, List.foldl_cons, List.foldl_nil, List.getD_cons_zero, List.getD_cons_succ, Act.put, List.setIfInBounds_toArray, List.set_cons_zero, List.set_cons_succ, List.filterMap_cons, List.filterMap_nil, List.getElem?_toArray, List.getElem?_cons_zero, List.getElem?_cons_succ] at hK2 ⊢
          have hK := Lib.hid hK2
          clear hK2
          generalize vs 7 = y7 at *
          have h7 : y7 = _ := h7
          subst h7
          simp only [Region.wanted, Inv.yieldedD, Inv.dst, List.getD_cons_zero, List.getD_cons_succ]
          go_simp
          refine hK.out _ _ ⟨_, rfl, hb_new _ _⟩ (below_alloc _ _) (Inv.noTies _ _ _ _ _)
        · have h4 : RowE wq w1.heap.size (vs 4) (es.take 0) := hv 4 (by simp)
          have h8 : ∃ g, vs 8 = .slice (some ⟨g, 0, none⟩) 1 1 ∧ wq.heap[g]? = some (.cells #[.string s, .int .i64 f] 115 (0, 0)) := hv 8 (by simp)
          clear hv htie
          simp only [Inv.putD, Inv.dst, List.foldl_cons, List.foldl_nil, List.getD_cons_zero, List.getD_cons_succ, Act.put, List.setIfInBounds_toArray, List.set_cons_zero, List.set_cons_succ, List.filterMap_cons, List.filterMap_nil, List.getElem?_toArray, List.getElem?_cons_zero, List.getElem?_cons_succ]
          generalize vs 0 = yy0 at *
          generalize vs 1 = yy1 at *
          generalize vs 2 = yy2 at *
          generalize vs 3 = yy3 at *
          generalize vs 4 = yy4 at *
          generalize vs 5 = yy5 at *
          generalize vs 6 = yy6 at *
          generalize vs 7 = yy7 at *
          generalize vs 8 = yy8 at *
          obtain ⟨g8, rfl, hg8⟩ := h8
          have he8 : Ents wq (some ⟨g8, 0, none⟩) [⟨s, f⟩] := fun i e he => by
            match i, he with
            | 0, he => cases he; exact ⟨g8, 0, rfl, hb_at hg8 0 rfl, hb_at hg8 1 rfl⟩
            | i + 1, he => simp at he
          have hsz := hbq.size
          obtain ⟨v5, w5, hr5, ho5, hg5⟩ := append_e wq w1.heap.size _ _ 1 (es.take 0) [⟨s, f⟩] h4 he8 (fun a h => by cases h; rfl) (by rw [List.length_take, HEL.out]; simp <;> omega) hsz
          have hdr : Ents w5 none (es.drop 0) := ((show Ents wq none es → Ents wq none (es.drop 0) from fun h0 i e h => h0 i e (by simpa using h)) (HE.out.below hbq)).grown (B := w1.heap.size) (fun a h => by cases h) hg5 (fun j hj => (h4.lt j hj).1)
          have hdl : (es.drop 0).length = 0 := by have := HEL.out; rw [List.length_drop]; omega
          obtain ⟨v6, w6, hr6, ho6, hg6⟩ := append_e w5 w1.heap.size v5 none 0 (es.take 0 ++ [⟨s, f⟩]) (es.drop 0) ho5 hdr (fun a h => by cases h) (by rw [hdl, List.length_append, List.length_take, HEL.out]; simp <;> omega) (Nat.le_trans hsz hg5.size)
          rw [hdl] at hr6
          have hB5 : Below w1.heap.size w1 w5 := hbq.grown hg5 hsz (fun j hj => (h4.lt j hj).1)
          have hB6 : Below w1.heap.size w1 w6 := hB5.grown hg6 hB5.size (fun j hj => (ho5.lt j hj).1)
          refine wpList_append_at rfl (.tmp 30) (.tmp 34) rfl rfl rfl rfl hr5 ?_
          refine wpList_append_at rfl (.tmp 35) (.tmp 38) rfl rfl rfl rfl hr6 ?_
          clear hr5 hr6 hdr h4 hg8 he8 hg5 hg6 hbq
          have HO6 := Lib.hid ho6
          have HB6 := Lib.hid hB6
          clear ho6 ho5 hB5 hB6
          go_wp2
          go_ret
          exact ⟨_, _, rfl, own_base HO6.out HZ.out, by have := HLEN.out; have := HWL.out; have := HEL.out; have := HLEN0.out; simp <;> omega, fun x hx => by
            rcases List.mem_append.1 hx with hx | hx
            · rcases List.mem_append.1 hx with hx | hx
              · exact .inl (wo_mem (by rw [← HES.out]; exact List.mem_of_mem_take hx))
              · exact .inr (by rw [List.mem_singleton.1 hx])
            · exact .inl (wo_mem (by rw [← HES.out]; exact List.mem_of_mem_drop hx)), HB.out.trans (HB6.out.mono HZ.out)⟩
      | some ad =>
        obtain ⟨b, off, sp⟩ := ad
        obtain rfl : sp = none := (HSP.out _ rfl).1
        by_cases hck : c = k
        · obtain rfl := hck
          go_upto_region 5 with fail
          refine Inv.regionP (by kernel_rfl) ?_
          refine Inv.take1 (i := 10) (oi := ⟨some 36, _, _, _, _, _⟩) (v := (.slice (some ⟨b, off, none⟩) c c)) [10] rfl (by kernel_rfl) (by kernel_rfl) (by kernel_rfl) (fun _ _ _ h => h) (Or.inl ⟨by rfl, ?_⟩) (by kernel_rfl) ?_
          · intro w'
            go_simp
          simp only [Act.put, List.setIfInBounds_toArray, List.set_cons_zero, List.set_cons_succ]
          refine Inv.take1 (i := 11) (oi := ⟨some 37, _, _, _, _, _⟩) (v := (.int .i64 c)) [10, 11] rfl (by kernel_rfl) (by kernel_rfl) (by kernel_rfl) (fun _ _ _ h => h) (Or.inl ⟨by rfl, ?_⟩) (by kernel_rfl) ?_
          · intro w'
            go_simp
          simp only [Act.put, List.setIfInBounds_toArray, List.set_cons_zero, List.set_cons_succ]
          refine Inv.take1 (i := 12) (oi := ⟨some 38, _, _, _, _, _⟩) (v := (.slice (some ⟨b, off, none⟩) 0 0)) [10, 11, 12] rfl (by kernel_rfl) (by kernel_rfl) (by kernel_rfl) (fun _ _ _ h => h) (Or.inl ⟨by rfl, ?_⟩) (by kernel_rfl) ?_
          · intro w'
            go_simp
          simp only [Act.put, List.setIfInBounds_toArray, List.set_cons_zero, List.set_cons_succ]
          refine Inv.regionT [0, 1, 2, 3, 4, 5, 6, 7, 8] [10, 11, 12] 9 [13, 14] [some 26, some 27, some 28, some 29, some 30, some 31, some 32, some 33, some 34, some 35, some 36, some 37, some 38, some 39, some 6] [[], [], [], [1, 2], [0, 3], [], [], [5, 6], [7]] (by kernel_rfl) (by kernel_rfl) (by kernel_rfl) (by kernel_rfl) (by kernel_rfl) [Inv.MP.made0 w1.heap.size 115, Inv.MP.is (.slice (some ⟨b, off, none⟩) c c), Inv.MP.is (.int .i64 c), Inv.MP.is (.slice (some ⟨b, off, none⟩) c c), Inv.MP.rowE w1.heap.size (es.take c), Inv.MP.is (.string s), Inv.MP.is (.int .i64 f), Inv.MP.is (.agg #[.string s, .int .i64 f]), Inv.MP.made #[.string s, .int .i64 f] 115 1] [] (by intro x hx; cases hx) _ (by kernel_rfl) ⟨?_, ?_, ?_, ?_, ?_, ?_, ?_, ?_, ?_, trivial⟩ (fun vs wq hbq hv htie => ?_)
          · intro vs w' hb hv K hK
            clear hv
            have hK2 := hK.out
            clear hK
            simp only [Inv.putD, Inv.dst, List.foldl_cons, List.foldl_nil, List.getD_cons_zero, List.getD_cons_succ, Act.put, List.setIfInBounds_toArray, List.set_cons_zero, List.set_cons_succ, List.filterMap_cons, List.filterMap_nil, List.getElem?_toArray, List.getElem?_cons_zero, List.getElem?_cons_succ] at hK2 ⊢
            have hK := Lib.hid hK2
            clear hK2
            simp only [Region.wanted, Inv.yieldedD, Inv.dst, List.getD_cons_zero, List.getD_cons_succ]
            go_simp
            refine hK.out _ _ ⟨_, rfl, hb.size, hb_new _ _⟩ (below_alloc _ _) (Inv.noTies _ _ _ _ _)
          · intro vs w' hb hv K hK
            clear hv
            have hK2 := hK.out
            clear hK
            simp only [Inv.putD, Inv.dst, List.foldl_cons, List.foldl_nil, List.getD_cons_zero, List.getD_cons_succ, Act.put, List.setIfInBounds_toArray, List.set_cons_zero, List.set_cons_succ, List.filterMap_cons, List.filterMap_nil, List.getElem?_toArray, List.getElem?_cons_zero, List.getElem?_cons_succ] at hK2 ⊢
            have hK := Lib.hid hK2
            clear hK2
            simp only [Region.wanted, Inv.yieldedD, Inv.dst, List.getD_cons_zero, List.getD_cons_succ]
            go_simp
            refine hK.out _ _ (Eq.refl _) (Below.refl _ _) (Inv.noTies _ _ _ _ _)
          · intro vs w' hb hv K hK
            clear hv
            have hK2 := hK.out
            clear hK
            simp only [Inv.putD, Inv.dst, List.foldl_cons, List.foldl_nil, List.getD_cons_zero, List.getD_cons_succ, Act.put, List.setIfInBounds_toArray, List.set_cons_zero, List.set_cons_succ, List.filterMap_cons, List.filterMap_nil, List.getElem?_toArray, List.getElem?_cons_zero, List.getElem?_cons_succ] at hK2 ⊢
            have hK := Lib.hid hK2
            clear hK2
            simp only [Region.wanted, Inv.yieldedD, Inv.dst, List.getD_cons_zero, List.getD_cons_succ]
            go_simp
            refine hK.out _ _ (Eq.refl _) (Below.refl _ _) (Inv.noTies _ _ _ _ _)
          · intro vs w' hb hv K hK
            have h1 : (Inv.MP.is (.slice (some ⟨b, off, none⟩) c c)).p (vs 1) w' := hv 1 (by simp)
            have h2 : (Inv.MP.is (.int .i64 c)).p (vs 2) w' := hv 2 (by simp)
            clear hv
            have hK2 := hK.out
            clear hK
            simp only [Inv.putD, Inv.dst, List.foldl_cons, List.foldl_nil, List.getD_cons_zero, List.getD_cons_succ, Act.put, List.setIfInBounds_toArray, List.set_cons_zero, List.set_cons_succ, List.filterMap_cons, List.filterMap_nil, List.getElem?_toArray, List.getElem?_cons_zero, List.getElem?_cons_succ] at hK2 ⊢
            have hK := Lib.hid hK2
            clear hK2
            generalize vs 1 = y1 at *
            generalize vs 2 = y2 at *
            have h1 : y1 = _ := h1
            subst h1
            have h2 : y2 = _ := h2
            subst h2
            simp only [Region.wanted, Inv.yieldedD, Inv.dst, List.getD_cons_zero, List.getD_cons_succ]
            go_simp
            refine hK.out _ _ (Eq.refl _) (Below.refl _ _) (Inv.noTies _ _ _ _ _)
          · intro vs w' hb hv K hK
            have h0 : (Inv.MP.made0 w1.heap.size 115).p (vs 0) w' := hv 0 (by simp)
            have h3 : (Inv.MP.is (.slice (some ⟨b, off, none⟩) c c)).p (vs 3) w' := hv 3 (by simp)
            clear hv
            have hK2 := hK.out
            clear hK
            simp only [Inv.putD, Inv.dst, List.foldl_cons, List.foldl_nil, List.getD_cons_zero, List.getD_cons_succ, Act.put, List.setIfInBounds_toArray, List.set_cons_zero, List.set_cons_succ, List.filterMap_cons, List.filterMap_nil, List.getElem?_toArray, List.getElem?_cons_zero, List.getElem?_cons_succ] at hK2 ⊢
            have hK := Lib.hid hK2
            clear hK2
            generalize vs 0 = y0 at *
            generalize vs 3 = y3 at *
            obtain ⟨g0, rfl, hg1, hg2⟩ := h0
            have h3 : y3 = _ := h3
            subst h3
            simp only [Region.wanted, if_true]
            have hlk : (es.take c).length = c := by rw [List.length_take, HEL.out]; omega
            obtain ⟨v2, w2, hr2, ho2, hb2⟩ := append_e0 w' w1.heap.size g0 (some ⟨b, off, none⟩) c (es.take c) hg2 hg1 ((HE.out.below hb).take c) (fun a h => (HSP.out a h).1) (by rw [hlk]; omega)
            rw [hlk] at hr2
            refine oper_append_at (.tmp 26) (.tmp 29) rfl rfl rfl rfl hr2 ?_
            exact hK.out _ _ ho2 hb2 (Inv.noTies _ _ _ _ _)
          · intro vs w' hb hv K hK
            clear hv
            have hK2 := hK.out
            clear hK
            simp only [Inv.putD, Inv.dst, List.foldl_cons, List.foldl_nil, List.getD_cons_zero, List.getD_cons_succ, Act.put, List.setIfInBounds_toArray, List.set_cons_zero, List.set_cons_succ, List.filterMap_cons, List.filterMap_nil, List.getElem?_toArray, List.getElem?_cons_zero, List.getElem?_cons_succ] at hK2 ⊢
            have hK := Lib.hid hK2
            clear hK2
            simp only [Region.wanted, Inv.yieldedD, Inv.dst, List.getD_cons_zero, List.getD_cons_succ]
            go_simp
            refine hK.out _ _ (Eq.refl _) (Below.refl _ _) (Inv.noTies _ _ _ _ _)
          · intro vs w' hb hv K hK
            clear hv
            have hK2 := hK.out
            clear hK
            simp only [Inv.putD, Inv.dst, List.foldl_cons, List.foldl_nil, List.getD_cons_zero, List.getD_cons_succ, Act.put, List.setIfInBounds_toArray, List.set_cons_zero, List.set_cons_succ, List.filterMap_cons, List.filterMap_nil, List.getElem?_toArray, List.getElem?_cons_zero, List.getElem?_cons_succ] at hK2 ⊢
            have hK := Lib.hid hK2
            clear hK2
            simp only [Region.wanted, Inv.yieldedD, Inv.dst, List.getD_cons_zero, List.getD_cons_succ]
            go_simp
            refine hK.out _ _ (Eq.refl _) (Below.refl _ _) (Inv.noTies _ _ _ _ _)
          · intro vs w' hb hv K hK
            have h5 : (Inv.MP.is (.string s)).p (vs 5) w' := hv 5 (by simp)
            have h6 : (Inv.MP.is (.int .i64 f)).p (vs 6) w' := hv 6 (by simp)
            clear hv
            have hK2 := hK.out
            clear hK
            simp only [Inv.putD, Inv.dst, List.foldl_cons, List.foldl_nil, List.getD_cons_zero, List.getD_cons_succ, Act.put, List.setIfInBounds_toArray, List.set_cons_zero, List.set_cons_succ, List.filterMap_cons, List.filterMap_nil, List.getElem?_toArray, List.getElem?_cons_zero, List.getElem?_cons_succ] at hK2 ⊢
            have hK := Lib.hid hK2
            clear hK2
            generalize vs 5 = y5 at *
            generalize vs 6 = y6 at *
            have h5 : y5 = _ := h5
            subst h5
            have h6 : y6 = _ := h6
            subst h6
            simp only [Region.wanted, Inv.yieldedD, Inv.dst, List.getD_cons_zero, List.getD_cons_succ]
            go_simp
            refine hK.out _ _ (Eq.refl _) (Below.refl _ _) (Inv.noTies _ _ _ _ _)
          · intro vs w' hb hv K hK
            have h7 : (Inv.MP.is (.agg #[.string s, .int .i64 f])).p (vs 7) w' := hv 7 (by simp)
            clear hv
            have hK2 := hK.out
            clear hK
            simp only [Inv.putD, Inv.dst, List.foldl_cons, List.foldl_nil, List.getD_cons_zero, List.getD_cons_succ, Act.put, List.setIfInBounds_toArray, List.set_cons_zero, List.set_cons_succ, List.filterMap_cons, List.filterMap_nil, List.getElem?_toArray, List.getElem?_cons_zero, List.getElem?_cons_succ] at hK2 ⊢
            have hK := Lib.hid hK2
            clear hK2
            generalize vs 7 = y7 at *
            have h7 : y7 = _ := h7
            subst h7
            simp only [Region.wanted, Inv.yieldedD, Inv.dst, List.getD_cons_zero, List.getD_cons_succ]
            go_simp
            refine hK.out _ _ ⟨_, rfl, hb_new _ _⟩ (below_alloc _ _) (Inv.noTies _ _ _ _ _)
          · have h4 : RowE wq w1.heap.size (vs 4) (es.take c) := hv 4 (by simp)
            have h8 : ∃ g, vs 8 = .slice (some ⟨g, 0, none⟩) 1 1 ∧ wq.heap[g]? = some (.cells #[.string s, .int .i64 f] 115 (0, 0)) := hv 8 (by simp)
            clear hv htie
            simp only [Inv.putD, Inv.dst, List.foldl_cons, List.foldl_nil, List.getD_cons_zero, List.getD_cons_succ, Act.put, List.setIfInBounds_toArray, List.set_cons_zero, List.set_cons_succ, List.filterMap_cons, List.filterMap_nil, List.getElem?_toArray, List.getElem?_cons_zero, List.getElem?_cons_succ]
            generalize vs 0 = yy0 at *
            generalize vs 1 = yy1 at *
            generalize vs 2 = yy2 at *
            generalize vs 3 = yy3 at *
            generalize vs 4 = yy4 at *
            generalize vs 5 = yy5 at *
            generalize vs 6 = yy6 at *
            generalize vs 7 = yy7 at *
            generalize vs 8 = yy8 at *
            obtain ⟨g8, rfl, hg8⟩ := h8
            have he8 : Ents wq (some ⟨g8, 0, none⟩) [⟨s, f⟩] := fun i e he => by
              match i, he with
              | 0, he => cases he; exact ⟨g8, 0, rfl, hb_at hg8 0 rfl, hb_at hg8 1 rfl⟩
              | i + 1, he => simp at he
            have hsz := hbq.size
            obtain ⟨v5, w5, hr5, ho5, hg5⟩ := append_e wq w1.heap.size _ _ 1 (es.take c) [⟨s, f⟩] h4 he8 (fun a h => by cases h; rfl) (by rw [List.length_take, HEL.out]; simp <;> omega) hsz
            have hdr : Ents w5 (some ⟨b, off, none⟩) (es.drop c) := ((show Ents wq (some ⟨b, off, none⟩) es → Ents wq (some ⟨b, off, none⟩) (es.drop c) from fun _ i e h => by rw [List.drop_eq_nil_of_le (by have := HEL.out; omega)] at h; simp at h) (HE.out.below hbq)).grown (B := w1.heap.size) (fun a h => by cases h; exact (HSP.out _ rfl).2) hg5 (fun j hj => (h4.lt j hj).1)
            have hdl : (es.drop c).length = 0 := by have := HEL.out; rw [List.length_drop]; omega
            obtain ⟨v6, w6, hr6, ho6, hg6⟩ := append_e w5 w1.heap.size v5 (some ⟨b, off, none⟩) (c - c) (es.take c ++ [⟨s, f⟩]) (es.drop c) ho5 hdr (fun a h => by cases h; rfl) (by rw [hdl, List.length_append, List.length_take, HEL.out]; simp <;> omega) (Nat.le_trans hsz hg5.size)
            rw [hdl] at hr6
            have hB5 : Below w1.heap.size w1 w5 := hbq.grown hg5 hsz (fun j hj => (h4.lt j hj).1)
            have hB6 : Below w1.heap.size w1 w6 := hB5.grown hg6 hB5.size (fun j hj => (ho5.lt j hj).1)
            refine wpList_append_at rfl (.tmp 30) (.tmp 34) rfl rfl rfl rfl hr5 ?_
            refine wpList_append_at rfl (.tmp 35) (.tmp 38) rfl rfl rfl rfl hr6 ?_
            clear hr5 hr6 hdr h4 hg8 he8 hg5 hg6 hbq
            have HO6 := Lib.hid ho6
            have HB6 := Lib.hid hB6
            clear ho6 ho5 hB5 hB6
            go_wp2
            go_ret
            exact ⟨_, _, rfl, own_base HO6.out HZ.out, by have := HLEN.out; have := HWL.out; have := HEL.out; have := HLEN0.out; simp <;> omega, fun x hx => by
              rcases List.mem_append.1 hx with hx | hx
              · rcases List.mem_append.1 hx with hx | hx
                · exact .inl (wo_mem (by rw [← HES.out]; exact List.mem_of_mem_take hx))
                · exact .inr (by rw [List.mem_singleton.1 hx])
              · exact .inl (wo_mem (by rw [← HES.out]; exact List.mem_of_mem_drop hx)), HB.out.trans (HB6.out.mono HZ.out)⟩
        · have hkc : k ≤ c := by omega
          go_upto_region 5 with fail
          refine Inv.regionP (by kernel_rfl) ?_
          refine Inv.take1 (i := 10) (oi := ⟨some 36, _, _, _, _, _⟩) (v := (.slice (some ⟨b, off, none⟩) k c)) [10] rfl (by kernel_rfl) (by kernel_rfl) (by kernel_rfl) (fun _ _ _ h => h) (Or.inl ⟨by rfl, ?_⟩) (by kernel_rfl) ?_
          · intro w'
            go_simp
          simp only [Act.put, List.setIfInBounds_toArray, List.set_cons_zero, List.set_cons_succ]
          refine Inv.take1 (i := 11) (oi := ⟨some 37, _, _, _, _, _⟩) (v := (.int .i64 k)) [10, 11] rfl (by kernel_rfl) (by kernel_rfl) (by kernel_rfl) (fun _ _ _ h => h) (Or.inl ⟨by rfl, ?_⟩) (by kernel_rfl) ?_
          · intro w'
            go_simp
          simp only [Act.put, List.setIfInBounds_toArray, List.set_cons_zero, List.set_cons_succ]
          refine Inv.take1 (i := 12) (oi := ⟨some 38, _, _, _, _, _⟩) (v := (.slice (some ⟨b, off + k * 2, none⟩) 0 (c - k))) [10, 11, 12] rfl (by kernel_rfl) (by kernel_rfl) (by kernel_rfl) (fun _ _ _ h => h) (Or.inl ⟨by rfl, ?_⟩) (by kernel_rfl) ?_
          · intro w'
            go_simp
          simp only [Act.put, List.setIfInBounds_toArray, List.set_cons_zero, List.set_cons_succ]
          refine Inv.regionT [0, 1, 2, 3, 4, 5, 6, 7, 8] [10, 11, 12] 9 [13, 14] [some 26, some 27, some 28, some 29, some 30, some 31, some 32, some 33, some 34, some 35, some 36, some 37, some 38, some 39, some 6] [[], [], [], [1, 2], [0, 3], [], [], [5, 6], [7]] (by kernel_rfl) (by kernel_rfl) (by kernel_rfl) (by kernel_rfl) (by kernel_rfl) [Inv.MP.made0 w1.heap.size 115, Inv.MP.is (.slice (some ⟨b, off, none⟩) k c), Inv.MP.is (.int .i64 k), Inv.MP.is (.slice (some ⟨b, off, none⟩) k c), Inv.MP.rowE w1.heap.size (es.take k), Inv.MP.is (.string s), Inv.MP.is (.int .i64 f), Inv.MP.is (.agg #[.string s, .int .i64 f]), Inv.MP.made #[.string s, .int .i64 f] 115 1] [] (by intro x hx; cases hx) _ (by kernel_rfl) ⟨?_, ?_, ?_, ?_, ?_, ?_, ?_, ?_, ?_, trivial⟩ (fun vs wq hbq hv htie => ?_)
          · intro vs w' hb hv K hK
            clear hv
            have hK2 := hK.out
            clear hK
            simp only [Inv.putD, Inv.dst, List.foldl_cons, List.foldl_nil, List.getD_cons_zero, List.getD_cons_succ, Act.put, List.setIfInBounds_toArray, List.set_cons_zero, List.set_cons_succ, List.filterMap_cons, List.filterMap_nil, List.getElem?_toArray, List.getElem?_cons_zero, List.getElem?_cons_succ] at hK2 ⊢
            have hK := Lib.hid hK2
            clear hK2
            simp only [Region.wanted, Inv.yieldedD, Inv.dst, List.getD_cons_zero, List.getD_cons_succ]
            go_simp
            refine hK.out _ _ ⟨_, rfl, hb.size, hb_new _ _⟩ (below_alloc _ _) (Inv.noTies _ _ _ _ _)
          · intro vs w' hb hv K hK
            clear hv
            have hK2 := hK.out
            clear hK
            simp only [Inv.putD, Inv.dst, List.foldl_cons, List.foldl_nil, List.getD_cons_zero, List.getD_cons_succ, Act.put, List.setIfInBounds_toArray, List.set_cons_zero, List.set_cons_succ, List.filterMap_cons, List.filterMap_nil, List.getElem?_toArray, List.getElem?_cons_zero, List.getElem?_cons_succ] at hK2 ⊢
            have hK := Lib.hid hK2
            clear hK2
            simp only [Region.wanted, Inv.yieldedD, Inv.dst, List.getD_cons_zero, List.getD_cons_succ]
            go_simp
            refine hK.out _ _ (Eq.refl _) (Below.refl _ _) (Inv.noTies _ _ _ _ _)
          · intro vs w' hb hv K hK
            clear hv
            have hK2 := hK.out
            clear hK
            simp only [Inv.putD, Inv.dst, List.foldl_cons, List.foldl_nil, List.getD_cons_zero, List.getD_cons_succ, Act.put, List.setIfInBounds_toArray, List.set_cons_zero, List.set_cons_succ, List.filterMap_cons, List.filterMap_nil, List.getElem?_toArray, List.getElem?_cons_zero, List.getElem?_cons_succ] at hK2 ⊢
            have hK := Lib.hid hK2
            clear hK2
            simp only [Region.wanted, Inv.yieldedD, Inv.dst, List.getD_cons_zero, List.getD_cons_succ]
            go_simp
            refine hK.out _ _ (Eq.refl _) (Below.refl _ _) (Inv.noTies _ _ _ _ _)
          · intro vs w' hb hv K hK
            have h1 : (Inv.MP.is (.slice (some ⟨b, off, none⟩) k c)).p (vs 1) w' := hv 1 (by simp)
            have h2 : (Inv.MP.is (.int .i64 k)).p (vs 2) w' := hv 2 (by simp)
            clear hv
            have hK2 := hK.out
            clear hK
            simp only [Inv.putD, Inv.dst, List.foldl_cons, List.foldl_nil, List.getD_cons_zero, List.getD_cons_succ, Act.put, List.setIfInBounds_toArray, List.set_cons_zero, List.set_cons_succ, List.filterMap_cons, List.filterMap_nil, List.getElem?_toArray, List.getElem?_cons_zero, List.getElem?_cons_succ] at hK2 ⊢
            have hK := Lib.hid hK2
            clear hK2
            generalize vs 1 = y1 at *
            generalize vs 2 = y2 at *
            have h1 : y1 = _ := h1
            subst h1
            have h2 : y2 = _ := h2
            subst h2
            simp only [Region.wanted, Inv.yieldedD, Inv.dst, List.getD_cons_zero, List.getD_cons_succ]
            go_simp
            refine hK.out _ _ (Eq.refl _) (Below.refl _ _) (Inv.noTies _ _ _ _ _)
          · intro vs w' hb hv K hK
            have h0 : (Inv.MP.made0 w1.heap.size 115).p (vs 0) w' := hv 0 (by simp)
            have h3 : (Inv.MP.is (.slice (some ⟨b, off, none⟩) k c)).p (vs 3) w' := hv 3 (by simp)
            clear hv
            have hK2 := hK.out
            clear hK
            simp only [Inv.putD, Inv.dst, List.foldl_cons, List.foldl_nil, List.getD_cons_zero, List.getD_cons_succ, Act.put, List.setIfInBounds_toArray, List.set_cons_zero, List.set_cons_succ, List.filterMap_cons, List.filterMap_nil, List.getElem?_toArray, List.getElem?_cons_zero, List.getElem?_cons_succ] at hK2 ⊢
            have hK := Lib.hid hK2
            clear hK2
            generalize vs 0 = y0 at *
            generalize vs 3 = y3 at *
            obtain ⟨g0, rfl, hg1, hg2⟩ := h0
            have h3 : y3 = _ := h3
            subst h3
            simp only [Region.wanted, if_true]
            have hlk : (es.take k).length = k := by rw [List.length_take, HEL.out]; omega
            obtain ⟨v2, w2, hr2, ho2, hb2⟩ := append_e0 w' w1.heap.size g0 (some ⟨b, off, none⟩) c (es.take k) hg2 hg1 ((HE.out.below hb).take k) (fun a h => (HSP.out a h).1) (by rw [hlk]; omega)
            rw [hlk] at hr2
            refine oper_append_at (.tmp 26) (.tmp 29) rfl rfl rfl rfl hr2 ?_
            exact hK.out _ _ ho2 hb2 (Inv.noTies _ _ _ _ _)
          · intro vs w' hb hv K hK
            clear hv
            have hK2 := hK.out
            clear hK
            simp only [Inv.putD, Inv.dst, List.foldl_cons, List.foldl_nil, List.getD_cons_zero, List.getD_cons_succ, Act.put, List.setIfInBounds_toArray, List.set_cons_zero, List.set_cons_succ, List.filterMap_cons, List.filterMap_nil, List.getElem?_toArray, List.getElem?_cons_zero, List.getElem?_cons_succ] at hK2 ⊢
            have hK := Lib.hid hK2
            clear hK2
            simp only [Region.wanted, Inv.yieldedD, Inv.dst, List.getD_cons_zero, List.getD_cons_succ]
            go_simp
            refine hK.out _ _ (Eq.refl _) (Below.refl _ _) (Inv.noTies _ _ _ _ _)
          · intro vs w' hb hv K hK
            clear hv
            have hK2 := hK.out
            clear hK
            simp only [Inv.putD, Inv.dst, List.foldl_cons, List.foldl_nil, List.getD_cons_zero, List.getD_cons_succ, Act.put, List.setIfInBounds_toArray, List.set_cons_zero, List.set_cons_succ, List.filterMap_cons, List.filterMap_nil, List.getElem?_toArray, List.getElem?_cons_zero, List.getElem?_cons_succ] at hK2 ⊢
            have hK := Lib.hid hK2
            clear hK2
            simp only [Region.wanted, Inv.yieldedD, Inv.dst, List.getD_cons_zero, List.getD_cons_succ]
            go_simp
            refine hK.out _ _ (Eq.refl _) (Below.refl _ _) (Inv.noTies _ _ _ _ _)
          · intro vs w' hb hv K hK
            have h5 : (Inv.MP.is (.string s)).p (vs 5) w' := hv 5 (by simp)
            have h6 : (Inv.MP.is (.int .i64 f)).p (vs 6) w' := hv 6 (by simp)
            clear hv
            have hK2 := hK.out
            clear hK
            simp only [Inv.putD, Inv.dst, List.foldl_cons, List.foldl_nil, List.getD_cons_zero, List.getD_cons_succ, Act.put, List.setIfInBounds_toArray, List.set_cons_zero, List.set_cons_succ, List.filterMap_cons, List.filterMap_nil, List.getElem?_toArray, List.getElem?_cons_zero, List.getElem?_cons_succ] at hK2 ⊢
            have hK := Lib.hid hK2
            clear hK2
            generalize vs 5 = y5 at *
            generalize vs 6 = y6 at *
            have h5 : y5 = _ := h5
            subst h5
            have h6 : y6 = _ := h6
            subst h6
            simp only [Region.wanted, Inv.yieldedD, Inv.dst, List.getD_cons_zero, List.getD_cons_succ]
            go_simp
            refine hK.out _ _ (Eq.refl _) (Below.refl _ _) (Inv.noTies _ _ _ _ _)
          · intro vs w' hb hv K hK
            have h7 : (Inv.MP.is (.agg #[.string s, .int .i64 f])).p (vs 7) w' := hv 7 (by simp)
            clear hv
            have hK2 := hK.out
            clear hK
            simp only [Inv.putD, Inv.dst, List.foldl_cons, List.foldl_nil, List.getD_cons_zero, List.getD_cons_succ, Act.put, List.setIfInBounds_toArray, List.set_cons_zero, List.set_cons_succ, List.filterMap_cons, List.filterMap_nil, List.getElem?_toArray, List.getElem?_cons_zero, List.getElem?_cons_succ] at hK2 ⊢
            have hK := Lib.hid hK2
            clear hK2
            generalize vs 7 = y7 at *
            have h7 : y7 = _ := h7
            subst h7
            simp only [Region.wanted, Inv.yieldedD, Inv.dst, List.getD_cons_zero, List.getD_cons_succ]
            go_simp
            refine hK.out _ _ ⟨_, rfl, hb_new _ _⟩ (below_alloc _ _) (Inv.noTies _ _ _ _ _)
          · have h4 : RowE wq w1.heap.size (vs 4) (es.take k) := hv 4 (by simp)
            have h8 : ∃ g, vs 8 = .slice (some ⟨g, 0, none⟩) 1 1 ∧ wq.heap[g]? = some (.cells #[.string s, .int .i64 f] 115 (0, 0)) := hv 8 (by simp)
            clear hv htie
            simp only [Inv.putD, Inv.dst, List.foldl_cons, List.foldl_nil, List.getD_cons_zero, List.getD_cons_succ, Act.put, List.setIfInBounds_toArray, List.set_cons_zero, List.set_cons_succ, List.filterMap_cons, List.filterMap_nil, List.getElem?_toArray, List.getElem?_cons_zero, List.getElem?_cons_succ]
            generalize vs 0 = yy0 at *
            generalize vs 1 = yy1 at *
            generalize vs 2 = yy2 at *
            generalize vs 3 = yy3 at *
            generalize vs 4 = yy4 at *
            generalize vs 5 = yy5 at *
            generalize vs 6 = yy6 at *
            generalize vs 7 = yy7 at *
            generalize vs 8 = yy8 at *
            obtain ⟨g8, rfl, hg8⟩ := h8
            have he8 : Ents wq (some ⟨g8, 0, none⟩) [⟨s, f⟩] := fun i e he => by
              match i, he with
              | 0, he => cases he; exact ⟨g8, 0, rfl, hb_at hg8 0 rfl, hb_at hg8 1 rfl⟩
              | i + 1, he => simp at he
            have hsz := hbq.size
            obtain ⟨v5, w5, hr5, ho5, hg5⟩ := append_e wq w1.heap.size _ _ 1 (es.take k) [⟨s, f⟩] h4 he8 (fun a h => by cases h; rfl) (by rw [List.length_take, HEL.out]; simp <;> omega) hsz
            have hdr : Ents w5 (some ⟨b, off + k * 2, none⟩) (es.drop k) := (Ents.drop (k := k) (HE.out.below hbq)).grown (B := w1.heap.size) (fun a h => by cases h; exact (HSP.out _ rfl).2) hg5 (fun j hj => (h4.lt j hj).1)
            have hdl : (es.drop k).length = 0 := by have := HEL.out; rw [List.length_drop]; omega
            obtain ⟨v6, w6, hr6, ho6, hg6⟩ := append_e w5 w1.heap.size v5 (some ⟨b, off + k * 2, none⟩) (c - k) (es.take k ++ [⟨s, f⟩]) (es.drop k) ho5 hdr (fun a h => by cases h; rfl) (by rw [hdl, List.length_append, List.length_take, HEL.out]; simp <;> omega) (Nat.le_trans hsz hg5.size)
            rw [hdl] at hr6
            have hB5 : Below w1.heap.size w1 w5 := hbq.grown hg5 hsz (fun j hj => (h4.lt j hj).1)
            have hB6 : Below w1.heap.size w1 w6 := hB5.grown hg6 hB5.size (fun j hj => (ho5.lt j hj).1)
            refine wpList_append_at rfl (.tmp 30) (.tmp 34) rfl rfl rfl rfl hr5 ?_
            refine wpList_append_at rfl (.tmp 35) (.tmp 38) rfl rfl rfl rfl hr6 ?_
            clear hr5 hr6 hdr h4 hg8 he8 hg5 hg6 hbq
            have HO6 := Lib.hid ho6
            have HB6 := Lib.hid hB6
            clear ho6 ho5 hB5 hB6
            go_wp2
            go_ret
            exact ⟨_, _, rfl, own_base HO6.out HZ.out, by have := HLEN.out; have := HWL.out; have := HEL.out; have := HLEN0.out; simp <;> omega, fun x hx => by
              rcases List.mem_append.1 hx with hx | hx
              · rcases List.mem_append.1 hx with hx | hx
                · exact .inl (wo_mem (by rw [← HES.out]; exact List.mem_of_mem_take hx))
                · exact .inr (by rw [List.mem_singleton.1 hx])
              · exact .inl (wo_mem (by rw [← HES.out]; exact List.mem_of_mem_drop hx)), HB.out.trans (HB6.out.mono HZ.out)⟩
end Go.Proofs.Ytmfphnhdahaooaa
/- The document's own store: do. -/
namespace Go.Proofs.Ytmfphnhdahaooaa
open Go.RowKit Go.Maps
set_option linter.unusedSimpArgs false
set_option linter.unusedVariables false
def Inv.MP.withE (base : Nat) (es : List En) (f : Nat) : Inv.MP := ⟨fun v w => ∃ es2, RowE w base v es2 ∧ es2.length ≤ es.length + 1 ∧ ∀ x ∈ es2, x ∈ es ∨ x.f = f, fun v w w' ⟨es2, h, h2, h3⟩ hb => ⟨es2, own_kept h fun g x hg hx => by rw [hb.block g (hb_lt hx), hx], h2, h3⟩⟩
/-- What a turn leaves of a directory. -/
def DoP (B n : Nat) (es : List En) (w : World) (e : Ending) (w' : World) : Prop := ∃ v es2, e = .returned v ∧ RowE w' B v es2 ∧ es2.length ≤ es.length + 1 ∧ (∀ x ∈ es2, x.f < n) ∧ Below w.heap.size w w'
set_option maxRecDepth 100000 in
set_option maxHeartbeats 4000000 in
theorem rdo_any {w : World} {B n : Nat} {dv : Value} {es : List En} (h : RowE w B dv es) (hB : B ≤ w.heap.size) (hl : es.length ≤ 80000) (t : RT) (hf : ∀ e ∈ es, e.f < n) (ht : t.kind = 0 → t.f < n) :
    Calls Try.prog 66 #[dv, .agg #[.int .i64 (t.kind : Nat), .string t.name, .string t.dst, .int .i64 (t.f : Nat)]] w (DoP B n es w) := by
  obtain ⟨ao, c, rfl, hlc⟩ := own_sl h
  have HE := Lib.hid (ents_row h)
  have HR := Lib.hid h
  have HBW := Lib.hid hB
  have HFT := Lib.hid hf
  have HT := Lib.hid ht
  have HW : RowKit.Hid (∀ w', Below w.heap.size w w' → Calls Try.prog 75 #[.slice ao es.length c, .string t.name] w' (RowEP (woE es t.name) w')) := Lib.hid fun w' hb => rwithout_any (HE.out.below hb) (by omega) t.name
  have HWI : RowKit.Hid (∀ w', Below w.heap.size w w' → Calls Try.prog 74 #[.slice ao es.length c, .string t.name, .int .i64 (t.f : Nat)] w' (WithP es t.f w')) := Lib.hid fun w' hb => rwith_any (HE.out.below hb) (by omega) t.name t.f
  have HFI : RowKit.Hid (∀ w', Below w.heap.size w w' → Calls Try.prog 61 #[.slice ao es.length c, .string t.name] w' fun e w2 => e = .returned (.int .i64 (findE es t.name)) ∧ w' = w2) := Lib.hid fun w' hb => rfind_any (HE.out.below hb) (by omega) t.name
  obtain ⟨len, hlen⟩ : ∃ n, n = es.length := ⟨_, rfl⟩
  have HLEN0 := Lib.hid hlen
  have HLEN : RowKit.Hid (es.length ≤ 80000) := Lib.hid hl
  rw [← hlen] at hlc HW HWI HFI ⊢
  have hb0 : Below w.heap.size w (w.alloc (.cells #[.int .i64 (t.kind : Nat), .string t.name, .string t.dst, .int .i64 (t.f : Nat)] 111)) := below_alloc w _
  have HX := Lib.hid (hb_new w (.cells #[.int .i64 (t.kind : Nat), .string t.name, .string t.dst, .int .i64 (t.f : Nat)] 111))
  have HB := Lib.hid hb0
  clear h hB hf ht hlen hl hb0
  go_enter Try.func66, Try.ntmps66
  go_upto_region 1 with fail
  generalize (w.alloc (.cells #[.int .i64 (t.kind : Nat), .string t.name, .string t.dst, .int .i64 (t.f : Nat)] 111)) = W1 at *
  have x0 := hb_at HX.out 0 rfl
  have x1 := hb_at HX.out 1 rfl
  have x3 := hb_at HX.out 3 rfl
  by_cases h0 : (t.kind : Int) = 0
  · have e0 : ((t.kind : Int) == 0) = true := by rw [h0]; rfl
    have HTF := Lib.hid (HT.out (by omega))
    clear h0
    go_wp2_with (go_at_call 74; ((with_reducible refine (HWI.out _ HB.out).mono ?_); rintro e5 w5 ⟨v5, es5, rfl, hr5, hl5, hm5, hb5⟩))
    go_ret
    exact ⟨_, es5, rfl, own_base hr5 (Nat.le_trans HBW.out HB.out.size), hl5, fun x hx => by
      rcases hm5 x hx with h | h
      · exact HFT.out x h
      · rw [h]; exact HTF.out, HB.out.trans (hb5.mono HB.out.size)⟩
  · have e0 : ((t.kind : Int) == 0) = false := by simpa using h0
    by_cases h1 : (t.kind : Int) = 1
    · have e1 : ((t.kind : Int) == 1) = true := by rw [h1]; rfl
      clear h0 h1
      go_wp2_with (go_at_call 75; ((with_reducible refine (HW.out _ HB.out).mono ?_); rintro e5 w5 ⟨v5, rfl, hr5, hb5⟩))
      go_ret
      exact ⟨_, _, rfl, own_base hr5 (Nat.le_trans HBW.out HB.out.size), Nat.le_succ_of_le (wo_len es t.name), fun x hx => HFT.out x (wo_mem hx), HB.out.trans (hb5.mono HB.out.size)⟩
    · have e1 : ((t.kind : Int) == 1) = false := by simpa using h1
      clear h0 h1
      have HWO : RowKit.Hid (∀ w', Below W1.heap.size W1 w' → Calls Try.prog 75 #[.slice ao len c, .string t.name] w' (RowEP (woE es t.name) w')) := Lib.hid fun w' hb => HW.out w' (HB.out.trans (hb.mono HB.out.size))
      rcases find_lt HFT.out t.name with hfn | ⟨k, hkn, hfk⟩
      · rw [hfn] at HFI
        go_wp2_with (go_at_call 61; ((with_reducible refine (HFI.out _ HB.out).mono ?_); rintro e5 w5 ⟨rfl, rfl⟩))
        go_ret
        exact ⟨_, es, rfl, by rw [HLEN0.out]; exact own_kept HR.out fun g x hg hx => hb_below hx HB.out (hb_lt hx), Nat.le_succ _, HFT.out, HB.out⟩
      · rw [hfk] at HFI
        have HKN := Lib.hid hkn
        clear hfk hkn
        go_upto_region 9 with (go_at_call 61; ((with_reducible refine (HFI.out _ HB.out).mono ?_); rintro e5 w5 ⟨rfl, rfl⟩))
        refine Inv.regionP (by kernel_rfl) ?_
        refine Inv.start0 ?_ (by kernel_rfl)
        refine Inv.regionT [0, 1, 2, 3, 4, 5, 6, 7] [] 8 [] [some 29, some 30, some 31, some 32, some 33, some 34, some 35, some 36, some 4] [[], [], [1], [0, 2], [], [4], [], [3, 5, 6, 3]] (by kernel_rfl) (by kernel_rfl) (by kernel_rfl) (by kernel_rfl) (by kernel_rfl) [Inv.MP.is (.slice ao len c), Inv.MP.is (.pointer (some ⟨w.heap.size, 1, none⟩)), Inv.MP.is (.string t.name), Inv.MP.rowE W1.heap.size (woE es t.name), Inv.MP.is (.pointer (some ⟨w.heap.size, 2, none⟩)), Inv.MP.is (.string t.dst), Inv.MP.is (.int .i64 k), Inv.MP.withE W1.heap.size (woE es t.name) k] [] (by intro x hx; cases hx) _ (by kernel_rfl) ⟨?_, ?_, ?_, ?_, ?_, ?_, ?_, ?_, trivial⟩ (fun vs wq hbq hv htie => ?_)
        · intro vs w' hb hv K hK
          clear hv
          have hK2 := hK.out
          clear hK
          simp only [Inv.putD, Inv.dst, List.foldl_cons, List.foldl_nil, List.getD_cons_zero, List.getD_cons_succ, Act.put, List.setIfInBounds_toArray, List.set_cons_zero, List.set_cons_succ, List.filterMap_cons, List.filterMap_nil, List.getElem?_toArray, List.getElem?_cons_zero, List.getElem?_cons_succ] at hK2 ⊢
          have hK := Lib.hid hK2
          clear hK2
          simp only [Region.wanted, Inv.yieldedD, Inv.dst, List.getD_cons_zero, List.getD_cons_succ]
          go_simp
          refine hK.out _ _ (Eq.refl _) (Below.refl _ _) (Inv.noTies _ _ _ _ _)
        · intro vs w' hb hv K hK
          clear hv
          have hK2 := hK.out
          clear hK
          simp only [Inv.putD, Inv.dst, List.foldl_cons, List.foldl_nil, List.getD_cons_zero, List.getD_cons_succ, Act.put, List.setIfInBounds_toArray, List.set_cons_zero, List.set_cons_succ, List.filterMap_cons, List.filterMap_nil, List.getElem?_toArray, List.getElem?_cons_zero, List.getElem?_cons_succ] at hK2 ⊢
          have hK := Lib.hid hK2
          clear hK2
          simp only [Region.wanted, Inv.yieldedD, Inv.dst, List.getD_cons_zero, List.getD_cons_succ]
          go_simp
          refine hK.out _ _ (Eq.refl _) (Below.refl _ _) (Inv.noTies _ _ _ _ _)
        · intro vs w' hb hv K hK
          have h1 : (Inv.MP.is (.pointer (some ⟨w.heap.size, 1, none⟩))).p (vs 1) w' := hv 1 (by simp)
          clear hv
          have hK2 := hK.out
          clear hK
          simp only [Inv.putD, Inv.dst, List.foldl_cons, List.foldl_nil, List.getD_cons_zero, List.getD_cons_succ, Act.put, List.setIfInBounds_toArray, List.set_cons_zero, List.set_cons_succ, List.filterMap_cons, List.filterMap_nil, List.getElem?_toArray, List.getElem?_cons_zero, List.getElem?_cons_succ] at hK2 ⊢
          have hK := Lib.hid hK2
          clear hK2
          generalize vs 1 = y1 at *
          have h1 : y1 = _ := h1
          subst h1
          have x1 := hb_at (hb_below HX.out hb (hb_lt HX.out)) 1 rfl
          simp only [Region.wanted, Inv.yieldedD, Inv.dst, List.getD_cons_zero, List.getD_cons_succ]
          go_simp
          refine hK.out _ _ (Eq.refl _) (Below.refl _ _) (Inv.noTies _ _ _ _ _)
        · intro vs w' hb hv K hK
          have h0 : (Inv.MP.is (.slice ao len c)).p (vs 0) w' := hv 0 (by simp)
          have h2 : (Inv.MP.is (.string t.name)).p (vs 2) w' := hv 2 (by simp)
          clear hv
          have hK2 := hK.out
          clear hK
          simp only [Inv.putD, Inv.dst, List.foldl_cons, List.foldl_nil, List.getD_cons_zero, List.getD_cons_succ, Act.put, List.setIfInBounds_toArray, List.set_cons_zero, List.set_cons_succ, List.filterMap_cons, List.filterMap_nil, List.getElem?_toArray, List.getElem?_cons_zero, List.getElem?_cons_succ] at hK2 ⊢
          have hK := Lib.hid hK2
          clear hK2
          generalize vs 0 = y0 at *
          generalize vs 2 = y2 at *
          have h0 : y0 = _ := h0
          subst h0
          have h2 : y2 = _ := h2
          subst h2
          simp only [Region.wanted, Inv.yieldedD, Inv.dst, List.getD_cons_zero, List.getD_cons_succ]
          go_simp
          ((with_reducible refine (HWO.out w' hb).mono ?_); rintro e5 w5 ⟨v5, rfl, hr5, hb5⟩)
          go_wp2_with fail
          refine hK.out _ _ (own_base hr5 hb.size) hb5 (Inv.noTies _ _ _ _ _)
        · intro vs w' hb hv K hK
          clear hv
          have hK2 := hK.out
          clear hK
          simp only [Inv.putD, Inv.dst, List.foldl_cons, List.foldl_nil, List.getD_cons_zero, List.getD_cons_succ, Act.put, List.setIfInBounds_toArray, List.set_cons_zero, List.set_cons_succ, List.filterMap_cons, List.filterMap_nil, List.getElem?_toArray, List.getElem?_cons_zero, List.getElem?_cons_succ] at hK2 ⊢
          have hK := Lib.hid hK2
          clear hK2
          simp only [Region.wanted, Inv.yieldedD, Inv.dst, List.getD_cons_zero, List.getD_cons_succ]
          go_simp
          refine hK.out _ _ (Eq.refl _) (Below.refl _ _) (Inv.noTies _ _ _ _ _)
        · intro vs w' hb hv K hK
          have h4 : (Inv.MP.is (.pointer (some ⟨w.heap.size, 2, none⟩))).p (vs 4) w' := hv 4 (by simp)
          clear hv
          have hK2 := hK.out
          clear hK
          simp only [Inv.putD, Inv.dst, List.foldl_cons, List.foldl_nil, List.getD_cons_zero, List.getD_cons_succ, Act.put, List.setIfInBounds_toArray, List.set_cons_zero, List.set_cons_succ, List.filterMap_cons, List.filterMap_nil, List.getElem?_toArray, List.getElem?_cons_zero, List.getElem?_cons_succ] at hK2 ⊢
          have hK := Lib.hid hK2
          clear hK2
          generalize vs 4 = y4 at *
          have h4 : y4 = _ := h4
          subst h4
          have x1 := hb_at (hb_below HX.out hb (hb_lt HX.out)) 2 rfl
          simp only [Region.wanted, Inv.yieldedD, Inv.dst, List.getD_cons_zero, List.getD_cons_succ]
          go_simp
          refine hK.out _ _ (Eq.refl _) (Below.refl _ _) (Inv.noTies _ _ _ _ _)
        · intro vs w' hb hv K hK
          clear hv
          have hK2 := hK.out
          clear hK
          simp only [Inv.putD, Inv.dst, List.foldl_cons, List.foldl_nil, List.getD_cons_zero, List.getD_cons_succ, Act.put, List.setIfInBounds_toArray, List.set_cons_zero, List.set_cons_succ, List.filterMap_cons, List.filterMap_nil, List.getElem?_toArray, List.getElem?_cons_zero, List.getElem?_cons_succ] at hK2 ⊢
          have hK := Lib.hid hK2
          clear hK2
          simp only [Region.wanted, Inv.yieldedD, Inv.dst, List.getD_cons_zero, List.getD_cons_succ]
          go_simp
          refine hK.out _ _ (Eq.refl _) (Below.refl _ _) (Inv.noTies _ _ _ _ _)
        · intro vs w' hb hv K hK
          have h3 : (Inv.MP.rowE W1.heap.size (woE es t.name)).p (vs 3) w' := hv 3 (by simp)
          have h5 : (Inv.MP.is (.string t.dst)).p (vs 5) w' := hv 5 (by simp)
          have h6 : (Inv.MP.is (.int .i64 k)).p (vs 6) w' := hv 6 (by simp)
          clear hv
          have hK2 := hK.out
          clear hK
          simp only [Inv.putD, Inv.dst, List.foldl_cons, List.foldl_nil, List.getD_cons_zero, List.getD_cons_succ, Act.put, List.setIfInBounds_toArray, List.set_cons_zero, List.set_cons_succ, List.filterMap_cons, List.filterMap_nil, List.getElem?_toArray, List.getElem?_cons_zero, List.getElem?_cons_succ] at hK2 ⊢
          have hK := Lib.hid hK2
          clear hK2
          generalize vs 3 = y3 at *
          generalize vs 5 = y5 at *
          generalize vs 6 = y6 at *
          obtain ⟨ao3, c3, rfl, _⟩ := own_sl (show RowE w' W1.heap.size y3 (woE es t.name) from h3)
          have HC7 := Lib.hid (rwith_any (c0 := c3) (ents_row (show RowE w' W1.heap.size (.slice ao3 (woE es t.name).length c3) (woE es t.name) from h3)) (by have := wo_len es t.name; have := HLEN.out; omega) t.dst k)
          have h5 : y5 = _ := h5
          subst h5
          have h6 : y6 = _ := h6
          subst h6
          simp only [Region.wanted, Inv.yieldedD, Inv.dst, List.getD_cons_zero, List.getD_cons_succ]
          go_simp
          ((with_reducible refine HC7.out.mono ?_); rintro e5 w5 ⟨v5, es5, rfl, hr5, hl5, hm5, hb5⟩)
          go_wp2_with fail
          refine hK.out _ _ ⟨es5, own_base hr5 hb.size, hl5, hm5⟩ hb5 (Inv.noTies _ _ _ _ _)
        · have h7 : ∃ es2, RowE wq W1.heap.size (vs 7) es2 ∧ es2.length ≤ (woE es t.name).length + 1 ∧ ∀ x ∈ es2, x ∈ woE es t.name ∨ x.f = k := hv 7 (by simp)
          clear hv htie
          simp only [Inv.putD, Inv.dst, List.foldl_cons, List.foldl_nil, List.getD_cons_zero, List.getD_cons_succ, Act.put, List.setIfInBounds_toArray, List.set_cons_zero, List.set_cons_succ, List.filterMap_cons, List.filterMap_nil, List.getElem?_toArray, List.getElem?_cons_zero, List.getElem?_cons_succ]
          generalize vs 0 = yy0 at *
          generalize vs 1 = yy1 at *
          generalize vs 2 = yy2 at *
          generalize vs 3 = yy3 at *
          generalize vs 4 = yy4 at *
          generalize vs 5 = yy5 at *
          generalize vs 6 = yy6 at *
          generalize vs 7 = yy7 at *
          obtain ⟨es2, hr2, hl2, hm2⟩ := h7
          have HR2 := Lib.hid hr2
          clear hr2
          go_wp2
          go_ret
          exact ⟨_, es2, rfl, own_base HR2.out (Nat.le_trans HBW.out HB.out.size), by have := wo_len es t.name; omega, fun x hx => by
            rcases hm2 x hx with h | h
            · exact HFT.out x (wo_mem h)
            · rw [h]; exact HKN.out, HB.out.trans (hbq.mono HB.out.size)⟩
end Go.Proofs.Ytmfphnhdahaooaa
/- The document's own store: turned. -/
namespace Go.Proofs.Ytmfphnhdahaooaa
open Go.RowKit Go.Maps
set_option linter.unusedSimpArgs false
set_option linter.unusedVariables false
theorem info111 : (Try.prog.info? 111).map (fun i => (i.zero, i.size, i.bytes)) = some (some (.agg #[.int .i64 0, .string ⟨#[]⟩, .string ⟨#[]⟩, .int .i64 0]), 4, 48) := by kernel_rfl
def Inv.MP.doE (B n m : Nat) : Inv.MP := ⟨fun v w => ∃ es2, RowE w B v es2 ∧ es2.length ≤ m ∧ ∀ x ∈ es2, x.f < n, fun v w w' ⟨es2, h, h2, h3⟩ hb => ⟨es2, own_kept h fun g x hg hx => by rw [hb.block g (hb_lt hx), hx], h2, h3⟩⟩
theorem RowE.below {w w' : World} {B : Nat} {v : Value} {es : List En} (h : RowE w B v es) (hb : Below w.heap.size w w') : RowE w' B v es := by
  unfold RowE at *
  exact own_kept h fun g x hg hx => hb_below hx hb (hb_lt hx)
theorem append_rt (W : World) (base : Nat) (v : Value) (ts : List RT) (t : RT) (hown : W.ownsRow base 111 4 v ts.length (ts.flatMap RT.cells)) (g c : Nat) (hg : W.heap[g]? = some (.cells #[.int .i64 (t.kind : Nat), .string t.name, .string t.dst, .int .i64 (t.f : Nat)] 111 (0, 0))) (hn : ts.length ≤ 100000) (hbase : base ≤ W.heap.size) :
    ∃ v' W', (Builtin.append_ #[50, 50] 50 #[v, .slice (some ⟨g, 0, none⟩) 1 c]).run Try.prog W = .ok v' W' ∧ W'.ownsRow base 111 4 v' (ts ++ [t]).length ((ts ++ [t]).flatMap RT.cells) ∧ W.grownBy W' v.ownBlock := by
  obtain ⟨i0, hi, hz0, hz1, hz2⟩ := info_parts info111
  obtain ⟨v', w', h1, h2, h3, _⟩ := run_append_own_at (P := Try.prog) W base 50 50 111 i0 _ 4 48 Try.underlying50 hi hz0 hz1 hz2 rfl (by decide) v ts.length (ts.flatMap RT.cells) hown ⟨g, 0, none⟩ 1 c t.cells rfl
    (fun j u hu => by
      rw [show (⟨g, 0, none⟩ : Addr).add j = ⟨g, j, none⟩ by unfold Addr.add; by_cases h0 : j = 0 <;> simp [h0]]
      match j, hu with
      | 0, hu => cases hu; exact hb_at hg 0 rfl
      | 1, hu => cases hu; exact hb_at hg 1 rfl
      | 2, hu => cases hu; exact hb_at hg 2 rfl
      | 3, hu => cases hu; exact hb_at hg 3 rfl
      | j + 4, hu => simp [RT.cells] at hu)
    (fun u hu => by simp [RT.cells] at hu; rcases hu with rfl | rfl | rfl | rfl <;> rfl) (by unfold maxLen; omega) (by omega) hbase
  refine ⟨v', w', h1, ?_, h3⟩
  rw [List.flatMap_append, List.length_append, List.flatMap_cons, List.flatMap_nil, List.append_nil]
  exact h2
theorem own_tag {w : World} {B : Nat} {e : TypeId} {size n : Nat} {v : Value} {xs : List Value} (h : w.ownsRow B e size v n xs) : ∀ g, v.ownBlock = some g → ∃ cur fr, w.heap[g]? = some (.cells cur e fr) := by
  intro g hg
  rcases h.2 with ⟨rfl, _⟩ | ⟨g2, cap, cur, rfl, _, hb, _⟩
  · cases hg
  · simp [Value.ownBlock] at hg; subst hg; exact ⟨_, _, hb⟩
section
variable {w w' : World} {B r k : Nat} {cap : Int} {fv dv lv tv : Value} {fs : List RF} {ds ls : List En} {ts : List RT}
theorem Ref.turn {w5 : World} {v5 : Value} {t : RT} (h : Ref w B r k cap fv dv lv tv fs ds ls ts) (hg : w.grownBy w5 tv.ownBlock) (ho : w5.ownsRow B 111 4 v5 (ts ++ [t]).length ((ts ++ [t]).flatMap RT.cells)) (hB : B ≤ w.heap.size) (ht : t.kind = 0 → t.f < fs.length) :
    Ref (w5.setCell ⟨r, 4, none⟩ v5) B r (k + 1) cap fv dv lv v5 fs ds ls (ts ++ [t]) ∧ RFrm B w (w5.setCell ⟨r, 4, none⟩ v5) := by
  obtain ⟨fa, pw, off, h0⟩ := h.store
  have hne := own_ne h.turns h0 (fun cs f e2 => by simp at e2)
  have h5 := hb_grown h0 hg hne
  have hrow : ∀ {v : Value} {e : TypeId} {size n : Nat} {xs : List Value}, e ≠ 52 → e ≠ 111 → w.ownsRow B e size v n xs → (w5.setCell ⟨r, 4, none⟩ v5).ownsRow B e size v n xs := fun he he2 ho => by
    refine own_kept ho fun g x hg2 hx => ?_
    obtain ⟨cur, fr, hb⟩ := own_tag ho g hg2
    rw [hb] at hx
    cases hx
    have h1 := own_ne h.turns hb (fun cs f e2 => he2 (by simp at e2; exact e2.2.1))
    exact hb_set_other (hb_grown hb hg h1) _ (fun e3 => by
      have e4 : g = r := e3
      rw [e4, h0] at hb
      simp at hb
      exact he hb.2.1.symm)
  have hrow5 : (w5.setCell ⟨r, 4, none⟩ v5).ownsRow B 111 4 v5 (ts ++ [t]).length ((ts ++ [t]).flatMap RT.cells) := own_kept ho fun g x hg2 hx => by
    obtain ⟨cur, fr, hb⟩ := own_tag ho g hg2
    rw [hb] at hx
    cases hx
    exact hb_set_other hb _ (fun e3 => by
      have e4 : g = r := e3
      rw [e4, h5] at hb
      simp at hb)
  have hs := hb_set_same h5 4 v5
  have hf1 : RFrm B w w5 := by
    cases e : tv.ownBlock with
    | none =>
      rw [e] at hg
      exact RFrm.ofBelow ⟨hg.os, hg.tape, hg.output, hg.size, fun b hb => hg.block b hb (by simp)⟩ hB
    | some g =>
      obtain ⟨cur, fr, hb⟩ := own_tag h.turns g e
      rw [e] at hg
      exact RFrm.ofGrown hg hb (.inr (.inr (.inl rfl))) (h.turns.lt g e).1
  refine ⟨⟨⟨fa, pw, off, hs⟩, hrow (by decide) (by decide) h.files, hrow (by decide) (by decide) h.dir, hrow (by decide) (by decide) h.lasts, hrow5, h.new, ⟨h.fit.1, h.fit.2.1, fun x hx hk => ?_⟩, h.small, ⟨Nat.le_succ_of_le h.few.1, Nat.le_succ_of_le h.few.2.1, Nat.le_succ_of_le h.few.2.2.1, by rw [List.length_append]; have := h.few.2.2.2; simp; omega⟩⟩, hf1.trans (RFrm.ofGrown (grown_set w5 ⟨r, 4, none⟩ v5) h5 (.inl rfl) h.new)⟩
  rcases List.mem_append.1 hx with hx | hx
  · exact h.fit.2.2 x hx hk
  · rw [List.mem_singleton.1 hx] at hk ⊢; exact ht hk
theorem Ref.redir {w2 : World} {v2 : Value} {es : List En} (h : Ref w B r k cap fv dv lv tv fs ds ls ts) (hb : Below w.heap.size w w2) (hB : B ≤ w.heap.size) (hl : RowE w2 B v2 es) (hn : es.length ≤ k) (hm : ∀ x ∈ es, x.f < fs.length) :
    Ref (w2.setCell ⟨r, 2, none⟩ v2) B r k cap fv v2 lv tv fs es ls ts ∧ RFrm B w (w2.setCell ⟨r, 2, none⟩ v2) := by
  have h2 := h.kept (w' := w2) fun _ _ _ _ _ hx => hb_below hx hb (hb_lt hx)
  obtain ⟨fa, pw, off, h0⟩ := h2.store
  have hg := grown_set w2 ⟨r, 2, none⟩ v2
  have hs := hb_set_same h0 2 v2
  have hrow : ∀ {v : Value} {e : TypeId} {size n : Nat} {xs : List Value}, e ≠ 52 → w2.ownsRow B e size v n xs → (w2.setCell ⟨r, 2, none⟩ v2).ownsRow B e size v n xs := fun he ho =>
    own_kept ho fun g2 x hg2 hx => hb_grown hx hg (by rw [← hg2]; exact Ne.symm (own_ne ho h0 (fun cs f e2 => he (by simp at e2; exact e2.2.1.symm))))
  exact ⟨⟨⟨fa, pw, off, hs⟩, hrow (by decide) h2.files, hrow (by decide) hl, hrow (by decide) h2.lasts, hrow (by decide) h2.turns, h.new, ⟨hm, h.fit.2.1, h.fit.2.2⟩, h.small, ⟨h.few.1, hn, h.few.2.2.1, h.few.2.2.2⟩⟩,
    (RFrm.ofBelow hb hB).trans (RFrm.ofGrown hg h0 (.inl rfl) h.new)⟩
def TurnedP (B r k : Nat) (cap : Int) (fv lv : Value) (fs : List RF) (ls : List En) (w : World) (e : Ending) (w' : World) : Prop := e = .returned (.tuple #[]) ∧ (∃ dv tv ds ts, Ref w' B r (k + 1) cap fv dv lv tv fs ds ls ts) ∧ RFrm B w w'
set_option maxRecDepth 100000 in
set_option maxHeartbeats 4000000 in
theorem rturned_any (h : Ref w B r k cap fv dv lv tv fs ds ls ts) (hk : k ≤ 70000) (hB : B ≤ w.heap.size) (t : RT) (ht : t.kind = 0 → t.f < fs.length) (ht2 : t.kind ≤ 1000) :
    Calls Try.prog 64 #[.pointer (some ⟨r, 0, none⟩), .agg #[.int .i64 (t.kind : Nat), .string t.name, .string t.dst, .int .i64 (t.f : Nat)]] w (TurnedP B r k cap fv lv fs ls w) := by
  obtain ⟨ta, tc, rfl, htc⟩ := own_sl h.turns
  have HR0 := Lib.hid h
  have H := Lib.hid h
  have HK := Lib.hid hk
  have HB0 := Lib.hid hB
  have HT := Lib.hid ht
  have HT2 := Lib.hid ht2
  have hb0 : Below w.heap.size w (w.alloc (.cells #[.int .i64 (t.kind : Nat), .string t.name, .string t.dst, .int .i64 (t.f : Nat)] 111)) := below_alloc w _
  have HX := Lib.hid (hb_new w (.cells #[.int .i64 (t.kind : Nat), .string t.name, .string t.dst, .int .i64 (t.f : Nat)] 111))
  have hR1 := h.kept (w' := w.alloc (.cells #[.int .i64 (t.kind : Nat), .string t.name, .string t.dst, .int .i64 (t.f : Nat)] 111)) fun _ _ _ _ _ hx => hb_alloc hx _
  obtain ⟨fa, pw, off, hs⟩ := hR1.store
  have HS1 := Lib.hid hs
  have HR1 := Lib.hid hR1
  have HF1 : RowKit.Hid (RFrm B w (w.alloc (.cells #[.int .i64 (t.kind : Nat), .string t.name, .string t.dst, .int .i64 (t.f : Nat)] 111))) := Lib.hid (RFrm.ofBelow hb0 hB)
  have HBW : RowKit.Hid (B ≤ (w.alloc (.cells #[.int .i64 (t.kind : Nat), .string t.name, .string t.dst, .int .i64 (t.f : Nat)] 111)).heap.size) := Lib.hid (Nat.le_trans hB hb0.size)
  clear h hk hB ht ht2 hb0 hR1 hs
  go_enter Try.func64, Try.ntmps64
  go_upto_region 1 with fail
  generalize (w.alloc (.cells #[.int .i64 (t.kind : Nat), .string t.name, .string t.dst, .int .i64 (t.f : Nat)] 111)) = W1 at *
  refine Inv.regionP (by kernel_rfl) ?_
  refine Inv.take1 (i := 0) (oi := ⟨some 4, _, _, _, _, _⟩) (v := (.pointer (some ⟨r, 0, none⟩))) [0] rfl (by kernel_rfl) (by kernel_rfl) (by kernel_rfl) (fun _ _ _ h => h) (Or.inl ⟨by rfl, ?_⟩) (by kernel_rfl) ?_
  · intro w'
    go_simp
  simp only [Act.put, List.setIfInBounds_toArray, List.set_cons_zero, List.set_cons_succ]
  refine Inv.regionT [1, 2, 3, 4, 5, 6] [0] 7 [8, 9, 10] [some 4, some 5, some 6, some 7, some 8, some 9, some 10, some 11, some 12, some 13, none] [[], [1], [2], [3], [], [5]] (by kernel_rfl) (by kernel_rfl) (by kernel_rfl) (by kernel_rfl) (by kernel_rfl) [Inv.MP.any, Inv.MP.is (.pointer (some ⟨r, 0, none⟩)), Inv.MP.is (.pointer (some ⟨r, 0, none⟩)), Inv.MP.is (.pointer (some ⟨r, 4, none⟩)), Inv.MP.is (.slice ta ts.length tc), Inv.MP.is (.agg #[.int .i64 (t.kind : Nat), .string t.name, .string t.dst, .int .i64 (t.f : Nat)]), Inv.MP.made #[.int .i64 (t.kind : Nat), .string t.name, .string t.dst, .int .i64 (t.f : Nat)] 111 1] [] (by intro x hx; cases hx) _ (by kernel_rfl) ⟨?_, ?_, ?_, ?_, ?_, ?_, trivial⟩ (fun vs wq hbq hv htie => ?_)
  · intro vs w' hb hv K hK
    clear hv
    have hK2 := hK.out
    clear hK
    simp only [Inv.putD, Inv.dst, List.foldl_cons, List.foldl_nil, List.getD_cons_zero, List.getD_cons_succ, Act.put, List.setIfInBounds_toArray, List.set_cons_zero, List.set_cons_succ, List.filterMap_cons, List.filterMap_nil, List.getElem?_toArray, List.getElem?_cons_zero, List.getElem?_cons_succ] at hK2 ⊢
    have hK := Lib.hid hK2
    clear hK2
    simp only [Region.wanted, Inv.yieldedD, Inv.dst, List.getD_cons_zero, List.getD_cons_succ]
    go_simp
    refine hK.out _ _ (Eq.refl _) (Below.refl _ _) (Inv.noTies _ _ _ _ _)
  · intro vs w' hb hv K hK
    have h1 : (Inv.MP.is (.pointer (some ⟨r, 0, none⟩))).p (vs 1) w' := hv 1 (by simp)
    clear hv
    have hK2 := hK.out
    clear hK
    simp only [Inv.putD, Inv.dst, List.foldl_cons, List.foldl_nil, List.getD_cons_zero, List.getD_cons_succ, Act.put, List.setIfInBounds_toArray, List.set_cons_zero, List.set_cons_succ, List.filterMap_cons, List.filterMap_nil, List.getElem?_toArray, List.getElem?_cons_zero, List.getElem?_cons_succ] at hK2 ⊢
    have hK := Lib.hid hK2
    clear hK2
    generalize vs 1 = y1 at *
    have h1 : y1 = _ := h1
    subst h1
    simp only [Region.wanted, Inv.yieldedD, Inv.dst, List.getD_cons_zero, List.getD_cons_succ]
    go_simp
    refine hK.out _ _ (Eq.refl _) (Below.refl _ _) (Inv.noTies _ _ _ _ _)
  · intro vs w' hb hv K hK
    have h2 : (Inv.MP.is (.pointer (some ⟨r, 0, none⟩))).p (vs 2) w' := hv 2 (by simp)
    clear hv
    have hK2 := hK.out
    clear hK
    simp only [Inv.putD, Inv.dst, List.foldl_cons, List.foldl_nil, List.getD_cons_zero, List.getD_cons_succ, Act.put, List.setIfInBounds_toArray, List.set_cons_zero, List.set_cons_succ, List.filterMap_cons, List.filterMap_nil, List.getElem?_toArray, List.getElem?_cons_zero, List.getElem?_cons_succ] at hK2 ⊢
    have hK := Lib.hid hK2
    clear hK2
    generalize vs 2 = y2 at *
    have h2 : y2 = _ := h2
    subst h2
    simp only [Region.wanted, Inv.yieldedD, Inv.dst, List.getD_cons_zero, List.getD_cons_succ]
    go_simp
    refine hK.out _ _ (Eq.refl _) (Below.refl _ _) (Inv.noTies _ _ _ _ _)
  · intro vs w' hb hv K hK
    have h3 : (Inv.MP.is (.pointer (some ⟨r, 4, none⟩))).p (vs 3) w' := hv 3 (by simp)
    clear hv
    have hK2 := hK.out
    clear hK
    simp only [Inv.putD, Inv.dst, List.foldl_cons, List.foldl_nil, List.getD_cons_zero, List.getD_cons_succ, Act.put, List.setIfInBounds_toArray, List.set_cons_zero, List.set_cons_succ, List.filterMap_cons, List.filterMap_nil, List.getElem?_toArray, List.getElem?_cons_zero, List.getElem?_cons_succ] at hK2 ⊢
    have hK := Lib.hid hK2
    clear hK2
    generalize vs 3 = y3 at *
    have h3 : y3 = _ := h3
    subst h3
    have c4 := hb_at (hb_below HS1.out hb (hb_lt HS1.out)) 4 rfl
    simp only [Region.wanted, Inv.yieldedD, Inv.dst, List.getD_cons_zero, List.getD_cons_succ]
    go_simp
    refine hK.out _ _ (Eq.refl _) (Below.refl _ _) (Inv.noTies _ _ _ _ _)
  · intro vs w' hb hv K hK
    clear hv
    have hK2 := hK.out
    clear hK
    simp only [Inv.putD, Inv.dst, List.foldl_cons, List.foldl_nil, List.getD_cons_zero, List.getD_cons_succ, Act.put, List.setIfInBounds_toArray, List.set_cons_zero, List.set_cons_succ, List.filterMap_cons, List.filterMap_nil, List.getElem?_toArray, List.getElem?_cons_zero, List.getElem?_cons_succ] at hK2 ⊢
    have hK := Lib.hid hK2
    clear hK2
    have x0 := hb_at (hb_below HX.out hb (hb_lt HX.out)) 0 rfl
    have x1 := hb_at (hb_below HX.out hb (hb_lt HX.out)) 1 rfl
    have x2 := hb_at (hb_below HX.out hb (hb_lt HX.out)) 2 rfl
    have x3 := hb_at (hb_below HX.out hb (hb_lt HX.out)) 3 rfl
    simp only [Region.wanted, Inv.yieldedD, Inv.dst, List.getD_cons_zero, List.getD_cons_succ]
    go_simp
    refine hK.out _ _ (Eq.refl _) (Below.refl _ _) (Inv.noTies _ _ _ _ _)
  · intro vs w' hb hv K hK
    have h5 : (Inv.MP.is (.agg #[.int .i64 (t.kind : Nat), .string t.name, .string t.dst, .int .i64 (t.f : Nat)])).p (vs 5) w' := hv 5 (by simp)
    clear hv
    have hK2 := hK.out
    clear hK
    simp only [Inv.putD, Inv.dst, List.foldl_cons, List.foldl_nil, List.getD_cons_zero, List.getD_cons_succ, Act.put, List.setIfInBounds_toArray, List.set_cons_zero, List.set_cons_succ, List.filterMap_cons, List.filterMap_nil, List.getElem?_toArray, List.getElem?_cons_zero, List.getElem?_cons_succ] at hK2 ⊢
    have hK := Lib.hid hK2
    clear hK2
    generalize vs 5 = y5 at *
    have h5 : y5 = _ := h5
    subst h5
    simp only [Region.wanted, Inv.yieldedD, Inv.dst, List.getD_cons_zero, List.getD_cons_succ]
    go_simp
    refine hK.out _ _ ⟨_, rfl, hb_new _ _⟩ (below_alloc _ _) (Inv.noTies _ _ _ _ _)
  · have h4 : vs 4 = .slice ta ts.length tc := hv 4 (by simp)
    have h6 : ∃ g, vs 6 = .slice (some ⟨g, 0, none⟩) 1 1 ∧ wq.heap[g]? = some (.cells #[.int .i64 (t.kind : Nat), .string t.name, .string t.dst, .int .i64 (t.f : Nat)] 111 (0, 0)) := hv 6 (by simp)
    clear hv htie
    simp only [Inv.putD, Inv.dst, List.foldl_cons, List.foldl_nil, List.getD_cons_zero, List.getD_cons_succ, Act.put, List.setIfInBounds_toArray, List.set_cons_zero, List.set_cons_succ, List.filterMap_cons, List.filterMap_nil, List.getElem?_toArray, List.getElem?_cons_zero, List.getElem?_cons_succ]
    generalize vs 1 = yy1 at *
    generalize vs 2 = yy2 at *
    generalize vs 3 = yy3 at *
    generalize vs 4 = yy4 at *
    generalize vs 5 = yy5 at *
    generalize vs 6 = yy6 at *
    obtain ⟨g6, rfl, hg6⟩ := h6
    subst h4
    have HRq := HR1.out.kept (w' := wq) fun _ _ _ _ _ hx => hb_below hx hbq (hb_lt hx)
    obtain ⟨v5, w5, hr5, ho5, hg5⟩ := append_rt wq B _ ts t HRq.turns g6 1 hg6 (by have := HRq.few.2.2.2; have := HK.out; omega) (Nat.le_trans HBW.out hbq.size)
    obtain ⟨a5, c5, hv5, _⟩ := own_sl ho5
    rw [show (ts ++ [t]).length = ts.length + 1 by simp] at hv5
    subst hv5
    obtain ⟨hR5, hF5⟩ := HRq.turn hg5 ho5 (Nat.le_trans HBW.out hbq.size) HT.out
    obtain ⟨fa5, pw5, off5, hs5⟩ := HRq.store
    have hne5 := own_ne HRq.turns hs5 (fun cs f e2 => by simp at e2)
    have hs5' := hb_grown hs5 hg5 hne5
    have f4 := hb_free hs5' 4
    have c4 := hb_at hs5' 4 rfl
    have hXq := hb_below HX.out hbq (hb_lt HX.out)
    have hXn : some w.heap.size ≠ Value.ownBlock (.slice ta ts.length tc) := fun e => by
      have := H.out.turns.lt w.heap.size e.symm
      omega
    have HX5 := Lib.hid (hb_set_other (hb_grown hXq hg5 hXn) (.slice a5 (ts.length + 1) c5) (a := ⟨r, 4, none⟩) (by show w.heap.size ≠ r; have := hb_lt H.out.store.choose_spec.choose_spec.choose_spec; omega))
    refine wpList_append_at rfl (.tmp 8) (.tmp 10) rfl rfl rfl rfl hr5 ?_
    have HR5 := Lib.hid hR5
    have HF5 := Lib.hid (HF1.out.trans ((RFrm.ofBelow hbq HBW.out).trans hF5))
    clear hr5 ho5 hg5 hR5 hF5 HRq hs5 hne5 hg6 hXq hXn hbq hs5'
    go_upto_region 2 with fail
    clear f4 c4 HX HS1 HR1
    generalize (w5.setCell ⟨r, 4, none⟩ (.slice a5 (ts.length + 1) c5)) = W2 at *
    obtain ⟨da, dc, rfl, hdc⟩ := own_sl HR5.out.dir
    obtain ⟨fa6, pw6, off6, hs6⟩ := HR5.out.store
    have HS6 := Lib.hid hs6
    have HBW2 : RowKit.Hid (B ≤ W2.heap.size) := Lib.hid (Nat.le_trans HB0.out HF5.out.size)
    clear hs6
    refine Inv.regionP (by kernel_rfl) ?_
    refine Inv.start0 ?_ (by kernel_rfl)
    refine Inv.regionT [0, 1, 2, 3, 4, 5, 6] [] 7 [8, 9] [some 14, some 15, some 16, some 17, some 18, some 19, some 20, some 21, some 22, none] [[], [], [1], [2], [3], [], [4, 5]] (by kernel_rfl) (by kernel_rfl) (by kernel_rfl) (by kernel_rfl) (by kernel_rfl) [Inv.MP.is (.pointer (some ⟨r, 0, none⟩)), Inv.MP.is (.pointer (some ⟨r, 0, none⟩)), Inv.MP.is (.pointer (some ⟨r, 0, none⟩)), Inv.MP.is (.pointer (some ⟨r, 2, none⟩)), Inv.MP.is (.slice da ds.length dc), Inv.MP.is (.agg #[.int .i64 (t.kind : Nat), .string t.name, .string t.dst, .int .i64 (t.f : Nat)]), Inv.MP.doE B fs.length (ds.length + 1)] [] (by intro x hx; cases hx) _ (by kernel_rfl) ⟨?_, ?_, ?_, ?_, ?_, ?_, ?_, trivial⟩ (fun vs wq hbq hv htie => ?_)
    · intro vs w' hb hv K hK
      clear hv
      have hK2 := hK.out
      clear hK
      simp only [Inv.putD, Inv.dst, List.foldl_cons, List.foldl_nil, List.getD_cons_zero, List.getD_cons_succ, Act.put, List.setIfInBounds_toArray, List.set_cons_zero, List.set_cons_succ, List.filterMap_cons, List.filterMap_nil, List.getElem?_toArray, List.getElem?_cons_zero, List.getElem?_cons_succ] at hK2 ⊢
      have hK := Lib.hid hK2
      clear hK2
      simp only [Region.wanted, Inv.yieldedD, Inv.dst, List.getD_cons_zero, List.getD_cons_succ]
      go_simp
      refine hK.out _ _ (Eq.refl _) (Below.refl _ _) (Inv.noTies _ _ _ _ _)
    · intro vs w' hb hv K hK
      clear hv
      have hK2 := hK.out
      clear hK
      simp only [Inv.putD, Inv.dst, List.foldl_cons, List.foldl_nil, List.getD_cons_zero, List.getD_cons_succ, Act.put, List.setIfInBounds_toArray, List.set_cons_zero, List.set_cons_succ, List.filterMap_cons, List.filterMap_nil, List.getElem?_toArray, List.getElem?_cons_zero, List.getElem?_cons_succ] at hK2 ⊢
      have hK := Lib.hid hK2
      clear hK2
      simp only [Region.wanted, Inv.yieldedD, Inv.dst, List.getD_cons_zero, List.getD_cons_succ]
      go_simp
      refine hK.out _ _ (Eq.refl _) (Below.refl _ _) (Inv.noTies _ _ _ _ _)
    · intro vs w' hb hv K hK
      have h1 : (Inv.MP.is (.pointer (some ⟨r, 0, none⟩))).p (vs 1) w' := hv 1 (by simp)
      clear hv
      have hK2 := hK.out
      clear hK
      simp only [Inv.putD, Inv.dst, List.foldl_cons, List.foldl_nil, List.getD_cons_zero, List.getD_cons_succ, Act.put, List.setIfInBounds_toArray, List.set_cons_zero, List.set_cons_succ, List.filterMap_cons, List.filterMap_nil, List.getElem?_toArray, List.getElem?_cons_zero, List.getElem?_cons_succ] at hK2 ⊢
      have hK := Lib.hid hK2
      clear hK2
      generalize vs 1 = y1 at *
      have h1 : y1 = _ := h1
      subst h1
      simp only [Region.wanted, Inv.yieldedD, Inv.dst, List.getD_cons_zero, List.getD_cons_succ]
      go_simp
      refine hK.out _ _ (Eq.refl _) (Below.refl _ _) (Inv.noTies _ _ _ _ _)
    · intro vs w' hb hv K hK
      have h2 : (Inv.MP.is (.pointer (some ⟨r, 0, none⟩))).p (vs 2) w' := hv 2 (by simp)
      clear hv
      have hK2 := hK.out
      clear hK
      simp only [Inv.putD, Inv.dst, List.foldl_cons, List.foldl_nil, List.getD_cons_zero, List.getD_cons_succ, Act.put, List.setIfInBounds_toArray, List.set_cons_zero, List.set_cons_succ, List.filterMap_cons, List.filterMap_nil, List.getElem?_toArray, List.getElem?_cons_zero, List.getElem?_cons_succ] at hK2 ⊢
      have hK := Lib.hid hK2
      clear hK2
      generalize vs 2 = y2 at *
      have h2 : y2 = _ := h2
      subst h2
      simp only [Region.wanted, Inv.yieldedD, Inv.dst, List.getD_cons_zero, List.getD_cons_succ]
      go_simp
      refine hK.out _ _ (Eq.refl _) (Below.refl _ _) (Inv.noTies _ _ _ _ _)
    · intro vs w' hb hv K hK
      have h3 : (Inv.MP.is (.pointer (some ⟨r, 2, none⟩))).p (vs 3) w' := hv 3 (by simp)
      clear hv
      have hK2 := hK.out
      clear hK
      simp only [Inv.putD, Inv.dst, List.foldl_cons, List.foldl_nil, List.getD_cons_zero, List.getD_cons_succ, Act.put, List.setIfInBounds_toArray, List.set_cons_zero, List.set_cons_succ, List.filterMap_cons, List.filterMap_nil, List.getElem?_toArray, List.getElem?_cons_zero, List.getElem?_cons_succ] at hK2 ⊢
      have hK := Lib.hid hK2
      clear hK2
      generalize vs 3 = y3 at *
      have h3 : y3 = _ := h3
      subst h3
      have c2 := hb_at (hb_below HS6.out hb (hb_lt HS6.out)) 2 rfl
      simp only [Region.wanted, Inv.yieldedD, Inv.dst, List.getD_cons_zero, List.getD_cons_succ]
      go_simp
      refine hK.out _ _ (Eq.refl _) (Below.refl _ _) (Inv.noTies _ _ _ _ _)
    · intro vs w' hb hv K hK
      clear hv
      have hK2 := hK.out
      clear hK
      simp only [Inv.putD, Inv.dst, List.foldl_cons, List.foldl_nil, List.getD_cons_zero, List.getD_cons_succ, Act.put, List.setIfInBounds_toArray, List.set_cons_zero, List.set_cons_succ, List.filterMap_cons, List.filterMap_nil, List.getElem?_toArray, List.getElem?_cons_zero, List.getElem?_cons_succ] at hK2 ⊢
      have hK := Lib.hid hK2
      clear hK2
      have x0 := hb_at (hb_below HX5.out hb (hb_lt HX5.out)) 0 rfl
      have x1 := hb_at (hb_below HX5.out hb (hb_lt HX5.out)) 1 rfl
      have x2 := hb_at (hb_below HX5.out hb (hb_lt HX5.out)) 2 rfl
      have x3 := hb_at (hb_below HX5.out hb (hb_lt HX5.out)) 3 rfl
      simp only [Region.wanted, Inv.yieldedD, Inv.dst, List.getD_cons_zero, List.getD_cons_succ]
      go_simp
      refine hK.out _ _ (Eq.refl _) (Below.refl _ _) (Inv.noTies _ _ _ _ _)
    · intro vs w' hb hv K hK
      have h4 : (Inv.MP.is (.slice da ds.length dc)).p (vs 4) w' := hv 4 (by simp)
      have h5 : (Inv.MP.is (.agg #[.int .i64 (t.kind : Nat), .string t.name, .string t.dst, .int .i64 (t.f : Nat)])).p (vs 5) w' := hv 5 (by simp)
      clear hv
      have hK2 := hK.out
      clear hK
      simp only [Inv.putD, Inv.dst, List.foldl_cons, List.foldl_nil, List.getD_cons_zero, List.getD_cons_succ, Act.put, List.setIfInBounds_toArray, List.set_cons_zero, List.set_cons_succ, List.filterMap_cons, List.filterMap_nil, List.getElem?_toArray, List.getElem?_cons_zero, List.getElem?_cons_succ] at hK2 ⊢
      have hK := Lib.hid hK2
      clear hK2
      generalize vs 4 = y4 at *
      generalize vs 5 = y5 at *
      have h4 : y4 = _ := h4
      subst h4
      have h5 : y5 = _ := h5
      subst h5
      simp only [Region.wanted, Inv.yieldedD, Inv.dst, List.getD_cons_zero, List.getD_cons_succ]
      go_simp
      ((with_reducible refine (rdo_any (HR5.out.dir.below hb) (Nat.le_trans HBW2.out hb.size) (by have := HR5.out.few.2.1; have := HK.out; omega) t HR5.out.fit.1 HT.out).mono ?_); rintro e5 w8 ⟨v8, es8, rfl, hr8, hl8, hm8, hb8⟩)
      go_wp2_with fail
      refine hK.out _ _ ⟨es8, hr8, hl8, hm8⟩ hb8 (Inv.noTies _ _ _ _ _)
    · have h0 : vs 0 = .pointer (some ⟨r, 0, none⟩) := hv 0 (by simp)
      have h6 : ∃ es2, RowE wq B (vs 6) es2 ∧ es2.length ≤ ds.length + 1 ∧ ∀ x ∈ es2, x.f < fs.length := hv 6 (by simp)
      clear hv htie
      simp only [Inv.putD, Inv.dst, List.foldl_cons, List.foldl_nil, List.getD_cons_zero, List.getD_cons_succ, Act.put, List.setIfInBounds_toArray, List.set_cons_zero, List.set_cons_succ, List.filterMap_cons, List.filterMap_nil, List.getElem?_toArray, List.getElem?_cons_zero, List.getElem?_cons_succ]
      generalize vs 0 = yy0 at *
      generalize vs 1 = yy1 at *
      generalize vs 2 = yy2 at *
      generalize vs 3 = yy3 at *
      generalize vs 4 = yy4 at *
      generalize vs 5 = yy5 at *
      generalize vs 6 = yy6 at *
      subst h0
      obtain ⟨es2, hr2, hl2, hm2⟩ := h6
      obtain ⟨a7, c7, rfl, _⟩ := own_sl hr2
      obtain ⟨hR7, hF7⟩ := HR5.out.redir hbq HBW2.out hr2 (by have := HR0.out.few.2.1; omega) hm2
      have hs7 := hb_below HS6.out hbq (hb_lt HS6.out)
      have f2 := hb_free hs7 2
      have c2 := hb_at hs7 2 rfl
      have HR7 := Lib.hid hR7
      have HF7 := Lib.hid (HF5.out.trans hF7)
      clear hR7 hF7 hs7 hr2 hbq
      go_wp2
      go_end0
      exact ⟨rfl, ⟨_, _, _, _, HR7.out⟩, HF7.out⟩
end
end Go.Proofs.Ytmfphnhdahaooaa
/- The document's own store: Remove, Rename. -/
namespace Go.Proofs.Ytmfphnhdahaooaa
open Go.RowKit Go.Maps
set_option linter.unusedSimpArgs false
set_option linter.unusedVariables false
section
variable {w w' : World} {B r k : Nat} {cap : Int} {fv dv lv tv : Value} {fs : List RF} {ds ls : List En} {ts : List RT}
theorem Ref.up {k' : Nat} (h : Ref w B r k cap fv dv lv tv fs ds ls ts) (hk : k ≤ k') : Ref w B r k' cap fv dv lv tv fs ds ls ts :=
  ⟨h.store, h.files, h.dir, h.lasts, h.turns, h.new, h.fit, h.small, ⟨Nat.le_trans h.few.1 hk, Nat.le_trans h.few.2.1 hk, Nat.le_trans h.few.2.2.1 hk, Nat.le_trans h.few.2.2.2 hk⟩⟩
set_option maxRecDepth 100000 in
set_option maxHeartbeats 4000000 in
theorem rremove_any (h : Ref w B r k cap fv dv lv tv fs ds ls ts) (hk : k ≤ 70000) (hB : B ≤ w.heap.size) (s : ByteArray) (hs : s.size ≤ maxLen) : Calls Try.prog 37 #[.pointer (some ⟨r, 0, none⟩), .string s] w (ROpP B r (k + 1) w) := by
  obtain ⟨fa, pw, off, h0⟩ := h.store
  obtain ⟨dao, dc, rfl, hdc⟩ := own_sl h.dir
  have c2 : w.cell? ⟨r, 2, none⟩ = some (.slice dao ds.length dc) := hb_at h0 2 rfl
  have HE := Lib.hid (ents_row h.dir)
  have H := Lib.hid h
  have H0 := Lib.hid h0
  have HS := Lib.hid hs
  have HK := Lib.hid hk
  have HB := Lib.hid hB
  have HUP := Lib.hid (h.up (Nat.le_succ k))
  have hdl : ds.length ≤ 100000 := Nat.le_trans h.few.2.1 (by omega)
  have hfl := find_lt h.fit.1 s
  have HFI := Lib.hid (rfind_any (c := dc) (ents_row h.dir) hdl s)
  clear h h0 hs hk hB
  generalize findE ds s = x at *
  go_enter Try.func37, Try.ntmps37
  go_upto_region 3 with (first
    | (go_at_call 60; refine (rname_any s HS.out _).mono ?_; rintro e w' ⟨⟨b, rfl⟩, rfl⟩; cases b)
    | go_in)
  all_goals first
    | (go_ret; exact ⟨⟨_, rfl⟩, ⟨_, _, _, _, _, _, _, _, _, HUP.out⟩, RFrm.refl _ _⟩)
    | skip
  rcases hfl with rfl | ⟨i, hi, rfl⟩
  · go_wp2_with (go_at_call 61; ((with_reducible refine HFI.out.mono ?_); rintro e w' ⟨rfl, rfl⟩))
    go_ret
    exact ⟨⟨_, rfl⟩, ⟨_, _, _, _, _, _, _, _, _, HUP.out⟩, RFrm.refl _ _⟩
  · clear hi
    go_upto_region 6 with (first
      | (go_at_call 61; ((with_reducible refine HFI.out.mono ?_); rintro e w' ⟨rfl, rfl⟩))
      | (go_at_call 62; refine (rstep_any H0.out).mono ?_; rintro e w1 ⟨⟨cd, rfl⟩, hS⟩)
      | go_in)
    obtain ⟨hR1, hF1⟩ := H.out.step hS
    have HR1 := Lib.hid hR1
    have HF1 := Lib.hid hF1
    have HC : RowKit.Hid (Calls Try.prog 64 #[.pointer (some ⟨r, 0, none⟩), .agg #[.int .i64 1, .string s, .string ⟨#[]⟩, .int .i64 0]] w1 (TurnedP B r k cap fv lv fs ls w1)) := Lib.hid (rturned_any hR1 HK.out (Nat.le_trans HB.out hF1.size) ⟨1, s, ⟨#[]⟩, 0⟩ (fun e => by cases e) (by show 1 ≤ 1000; omega))
    clear hR1 hF1 hS
    by_cases hcd : cd = 0
    · subst hcd
      go_wp2_with (go_at_call 64; ((with_reducible refine HC.out.mono ?_); rintro e w2 ⟨rfl, ⟨dv2, tv2, ds2, ts2, hR2⟩, hF2⟩))
      go_ret
      exact ⟨⟨_, rfl⟩, ⟨_, _, _, _, _, _, _, _, _, hR2⟩, HF1.out.trans hF2⟩
    · have e1 : (cd == 0) = false := by simpa using hcd
      go_wp2
      go_ret
      exact ⟨⟨_, rfl⟩, ⟨_, _, _, _, _, _, _, _, _, HR1.out.up (Nat.le_succ k)⟩, HF1.out⟩
set_option maxRecDepth 100000 in
set_option maxHeartbeats 4000000 in
theorem rrename_any (h : Ref w B r k cap fv dv lv tv fs ds ls ts) (hk : k ≤ 70000) (hB : B ≤ w.heap.size) (s t : ByteArray) (hs : s.size ≤ maxLen) (ht : t.size ≤ maxLen) : Calls Try.prog 36 #[.pointer (some ⟨r, 0, none⟩), .string s, .string t] w (ROpP B r (k + 1) w) := by
  obtain ⟨fa, pw, off, h0⟩ := h.store
  obtain ⟨dao, dc, rfl, hdc⟩ := own_sl h.dir
  have c2 : w.cell? ⟨r, 2, none⟩ = some (.slice dao ds.length dc) := hb_at h0 2 rfl
  have HE := Lib.hid (ents_row h.dir)
  have H := Lib.hid h
  have H0 := Lib.hid h0
  have HS := Lib.hid hs
  have HT := Lib.hid ht
  have HK := Lib.hid hk
  have HB := Lib.hid hB
  have HUP := Lib.hid (h.up (Nat.le_succ k))
  have hdl : ds.length ≤ 100000 := Nat.le_trans h.few.2.1 (by omega)
  have hfl := find_lt h.fit.1 s
  have HFI := Lib.hid (rfind_any (c := dc) (ents_row h.dir) hdl s)
  clear h h0 hs hk hB ht
  generalize findE ds s = x at *
  generalize hee : (s.toList == t.toList) = ee
  go_enter Try.func36, Try.ntmps36
  go_upto_region 1 with fail
  go_cut [20] (fun v wx => (∃ b : Bool, v = .bool b) ∧ wx = w)
  case first =>
    go_wp2_with fail
    (with_reducible refine (rname_any s HS.out _).mono ?_)
    rintro e w' ⟨⟨b, rfl⟩, rfl⟩
    cases b
    · go_wp2_with fail
      go_meet
      exact ⟨⟨_, rfl⟩, rfl⟩
    · go_wp2_with fail
      (with_reducible refine (rname_any t HT.out _).mono ?_)
      rintro e w' ⟨⟨b, rfl⟩, rfl⟩
      cases b
      · go_wp2_with fail
        go_meet
        exact ⟨⟨_, rfl⟩, rfl⟩
      · go_wp2_with fail
        go_meet
        exact ⟨⟨_, rfl⟩, rfl⟩
  case rest =>
    obtain ⟨⟨b, rfl⟩, rfl⟩ := hcut
    cases b
    rotate_left
    · go_wp2
      go_ret
      exact ⟨⟨_, rfl⟩, ⟨_, _, _, _, _, _, _, _, _, HUP.out⟩, RFrm.refl _ _⟩
    rcases hfl with rfl | ⟨i, hi, rfl⟩
    · go_wp2_with (go_at_call 61; ((with_reducible refine HFI.out.mono ?_); rintro e w' ⟨rfl, rfl⟩))
      go_ret
      exact ⟨⟨_, rfl⟩, ⟨_, _, _, _, _, _, _, _, _, HUP.out⟩, RFrm.refl _ _⟩
    · clear hi
      go_upto_region 6 with (first
        | (go_at_call 61; ((with_reducible refine HFI.out.mono ?_); rintro e w' ⟨rfl, rfl⟩))
        | (go_at_call 62; refine (rstep_any H0.out).mono ?_; rintro e w1 ⟨⟨cd, rfl⟩, hS⟩)
        | go_in)
      obtain ⟨hR1, hF1⟩ := H.out.step hS
      have HR1 := Lib.hid hR1
      have HF1 := Lib.hid hF1
      have HC : RowKit.Hid (Calls Try.prog 64 #[.pointer (some ⟨r, 0, none⟩), .agg #[.int .i64 2, .string s, .string t, .int .i64 0]] w1 (TurnedP B r k cap fv lv fs ls w1)) := Lib.hid (rturned_any hR1 HK.out (Nat.le_trans HB.out hF1.size) ⟨2, s, t, 0⟩ (fun e => by cases e) (by show 2 ≤ 1000; omega))
      clear hR1 hF1 hS
      by_cases hcd : cd = 0
      · subst hcd
        go_wp2_with (go_at_call 64; ((with_reducible refine HC.out.mono ?_); rintro e w2 ⟨rfl, ⟨dv2, tv2, ds2, ts2, hR2⟩, hF2⟩))
        go_ret
        exact ⟨⟨_, rfl⟩, ⟨_, _, _, _, _, _, _, _, _, hR2⟩, HF1.out.trans hF2⟩
      · have e1 : (cd == 0) = false := by simpa using hcd
        go_wp2
        go_ret
        exact ⟨⟨_, rfl⟩, ⟨_, _, _, _, _, _, _, _, _, HR1.out.up (Nat.le_succ k)⟩, HF1.out⟩
end
end Go.Proofs.Ytmfphnhdahaooaa
/- The document's own store: Write. -/
namespace Go.Proofs.Ytmfphnhdahaooaa
open Go.RowKit Go.Maps
set_option linter.unusedSimpArgs false
set_option linter.unusedVariables false
theorem info108 : (Try.prog.info? 108).map (fun i => (i.zero, i.size, i.bytes)) = some (some (.agg #[.string ⟨#[]⟩, .string ⟨#[]⟩]), 2, 32) := by kernel_rfl
theorem append_rf (W : World) (base : Nat) (v : Value) (fs : List RF) (f : RF) (hown : W.ownsRow base 108 2 v fs.length (fs.flatMap RF.cells)) (g c : Nat) (hg : W.heap[g]? = some (.cells #[.string f.now, .string f.lasts] 108 (0, 0))) (hn : fs.length ≤ 100000) (hbase : base ≤ W.heap.size) :
    ∃ v' W', (Builtin.append_ #[48, 48] 48 #[v, .slice (some ⟨g, 0, none⟩) 1 c]).run Try.prog W = .ok v' W' ∧ W'.ownsRow base 108 2 v' (fs ++ [f]).length ((fs ++ [f]).flatMap RF.cells) ∧ W.grownBy W' v.ownBlock := by
  obtain ⟨i0, hi, hz0, hz1, hz2⟩ := info_parts info108
  obtain ⟨v', w', h1, h2, h3, _⟩ := run_append_own_at (P := Try.prog) W base 48 48 108 i0 _ 2 32 Try.underlying48 hi hz0 hz1 hz2 rfl (by decide) v fs.length (fs.flatMap RF.cells) hown ⟨g, 0, none⟩ 1 c f.cells rfl
    (fun j u hu => by
      rw [show (⟨g, 0, none⟩ : Addr).add j = ⟨g, j, none⟩ by unfold Addr.add; by_cases h0 : j = 0 <;> simp [h0]]
      match j, hu with
      | 0, hu => cases hu; exact hb_at hg 0 rfl
      | 1, hu => cases hu; exact hb_at hg 1 rfl
      | j + 2, hu => simp [RF.cells] at hu)
    (fun u hu => by simp [RF.cells] at hu; rcases hu with rfl | rfl <;> rfl) (by unfold maxLen; omega) (by omega) hbase
  refine ⟨v', w', h1, ?_, h3⟩
  rw [List.flatMap_append, List.length_append, List.flatMap_cons, List.flatMap_nil, List.append_nil]
  exact h2
theorem row_last {w : World} {B : Nat} {c : Nat} {ao : Option Addr} {fs : List RF} {x : RF} (h : w.ownsRow B 108 2 (.slice ao (fs.length + 1) c) (fs ++ [x]).length ((fs ++ [x]).flatMap RF.cells)) :
    ∃ g, ao = some ⟨g, 0, none⟩ ∧ w.cell? ⟨g, fs.length * 2, none⟩ = some (.string x.now) ∧ w.frozen? ⟨g, fs.length * 2, none⟩ = false := by
  have hl : fs.length + 1 = (fs ++ [x]).length := by simp
  have h2 : w.ownsRow B 108 2 (.slice ao (fs ++ [x]).length c) (fs ++ [x]).length ((fs ++ [x]).flatMap RF.cells) := by
    rw [← hl] at h ⊢
    exact h
  obtain ⟨g, e, _, hc⟩ := row_at (cs := RF.cells) (fun _ => rfl) h2 (i := fs.length) (x := x) (by rw [List.getElem?_append_right (Nat.le_refl _)]; simp)
  subst e
  exact ⟨g, rfl, hc 0 _ rfl, h2.frozenAt _⟩
section
variable {w w' : World} {B r k : Nat} {cap : Int} {fv dv lv tv : Value} {fs : List RF} {ds ls : List En} {ts : List RT}
theorem Ref.grow {w5 : World} {v5 : Value} {x : RF} (h : Ref w B r k cap fv dv lv tv fs ds ls ts) (hg : w.grownBy w5 fv.ownBlock) (ho : w5.ownsRow B 108 2 v5 (fs ++ [x]).length ((fs ++ [x]).flatMap RF.cells)) (hB : B ≤ w.heap.size) (hx : x.now.size ≤ 1048576 ∧ x.lasts.size ≤ 1048576) :
    Ref (w5.setCell ⟨r, 1, none⟩ v5) B r (k + 1) cap v5 dv lv tv (fs ++ [x]) ds ls ts ∧ RFrm B w (w5.setCell ⟨r, 1, none⟩ v5) := by
  obtain ⟨fa, pw, off, h0⟩ := h.store
  have hne := own_ne h.files h0 (fun cs f e2 => by simp at e2)
  have h5 := hb_grown h0 hg hne
  have hrow : ∀ {v : Value} {e : TypeId} {size n : Nat} {xs : List Value}, e ≠ 52 → e ≠ 108 → w.ownsRow B e size v n xs → (w5.setCell ⟨r, 1, none⟩ v5).ownsRow B e size v n xs := fun he he2 ho => by
    refine own_kept ho fun g x hg2 hx => ?_
    obtain ⟨cur, fr, hb⟩ := own_tag ho g hg2
    rw [hb] at hx
    cases hx
    have h1 := own_ne h.files hb (fun cs f e2 => he2 (by simp at e2; exact e2.2.1))
    exact hb_set_other (hb_grown hb hg h1) _ (fun e3 => by
      have e4 : g = r := e3
      rw [e4, h0] at hb
      simp at hb
      exact he hb.2.1.symm)
  have hrow5 : (w5.setCell ⟨r, 1, none⟩ v5).ownsRow B 108 2 v5 (fs ++ [x]).length ((fs ++ [x]).flatMap RF.cells) := own_kept ho fun g x hg2 hx => by
    obtain ⟨cur, fr, hb⟩ := own_tag ho g hg2
    rw [hb] at hx
    cases hx
    exact hb_set_other hb _ (fun e3 => by
      have e4 : g = r := e3
      rw [e4, h5] at hb
      simp at hb)
  have hs := hb_set_same h5 1 v5
  have hf1 : RFrm B w w5 := by
    cases e : fv.ownBlock with
    | none =>
      rw [e] at hg
      exact RFrm.ofBelow ⟨hg.os, hg.tape, hg.output, hg.size, fun b hb => hg.block b hb (by simp)⟩ hB
    | some g =>
      obtain ⟨cur, fr, hb⟩ := own_tag h.files g e
      rw [e] at hg
      exact RFrm.ofGrown hg hb (.inr (.inl rfl)) (h.files.lt g e).1
  have hlen : (fs ++ [x]).length = fs.length + 1 := by simp
  refine ⟨⟨⟨fa, pw, off, hs⟩, hrow5, hrow (by decide) (by decide) h.dir, hrow (by decide) (by decide) h.lasts, hrow (by decide) (by decide) h.turns, h.new, ⟨fun e he => by have := h.fit.1 e he; omega, fun e he => by have := h.fit.2.1 e he; omega, fun t ht hk => by have := h.fit.2.2 t ht hk; omega⟩, fun f hf => ?_, ⟨by have := h.few.1; omega, Nat.le_succ_of_le h.few.2.1, Nat.le_succ_of_le h.few.2.2.1, Nat.le_succ_of_le h.few.2.2.2⟩⟩, hf1.trans (RFrm.ofGrown (grown_set w5 ⟨r, 1, none⟩ v5) h5 (.inl rfl) h.new)⟩
  rcases List.mem_append.1 hf with hf | hf
  · exact h.small f hf
  · rw [List.mem_singleton.1 hf]; exact hx
set_option maxRecDepth 100000 in
set_option maxHeartbeats 4000000 in
theorem rwrite_any (h : Ref w B r k cap fv dv lv tv fs ds ls ts) (hk : k ≤ 60000) (hB : B ≤ w.heap.size) (s : ByteArray) (pos : Int) (b : ByteArray) (hs : s.size ≤ maxLen) (hp : -9223372036854775808 ≤ pos ∧ pos ≤ 9223372036854775807) (hbs : b.size ≤ maxLen) :
    Calls Try.prog 33 #[.pointer (some ⟨r, 0, none⟩), .string s, .int .i64 pos, .string b] w (ROpP B r (k + 2) w) := by
  unfold maxLen at hbs
  obtain ⟨fa, pw, off, h0⟩ := h.store
  obtain ⟨fo, fc, rfl, hfc⟩ := own_sl h.files
  obtain ⟨dao, dc, rfl, hdc⟩ := own_sl h.dir
  have c2 : w.cell? ⟨r, 2, none⟩ = some (.slice dao ds.length dc) := hb_at h0 2 rfl
  have c1 : w.cell? ⟨r, 1, none⟩ = some (.slice fo fs.length fc) := hb_at h0 1 rfl
  have H := Lib.hid h
  have H0 := Lib.hid h0
  have HS := Lib.hid hs
  have HK := Lib.hid hk
  have HB := Lib.hid hB
  have HUP := Lib.hid (h.up (k' := k + 2) (by omega))
  have hdl : ds.length ≤ 100000 := Nat.le_trans h.few.2.1 (by omega)
  have hfl := find_lt h.fit.1 s
  have HFI := Lib.hid (rfind_any (c := dc) (ents_row h.dir) hdl s)
  clear h h0 hs hk hB
  generalize findE ds s = x at *
  go_enter Try.func33, Try.ntmps33
  go_upto_region 3 with (first
    | (go_at_call 60; refine (rname_any s HS.out _).mono ?_; rintro e w' ⟨⟨b, rfl⟩, rfl⟩; cases b)
    | go_in)
  all_goals first
    | (go_ret; exact ⟨⟨_, rfl⟩, ⟨_, _, _, _, _, _, _, _, _, HUP.out⟩, RFrm.refl _ _⟩)
    | skip
  rcases hfl with rfl | ⟨i, hi, rfl⟩
  · obtain ⟨was, hwas⟩ : ∃ x : ByteArray, x = ⟨#[]⟩ := ⟨_, rfl⟩
    have hwz : was.size ≤ 1048576 := by rw [hwas]; exact Nat.zero_le _
    go_upto_region 7 with (go_at_call 61; ((with_reducible refine HFI.out.mono ?_); rintro e w' ⟨rfl, rfl⟩))
    rw [← hwas]
    clear hwas
    go_cut [46] (fun v wx => (∃ q : Bool, v = .bool q ∧ (q = false → 0 ≤ pos ∧ pos ≤ (was.size : Int) ∧ (b.size : Int) ≤ 1048576 - pos)) ∧ wx = w)
    case first =>
      by_cases h1 : pos < 0
      · go_wp2
        go_meet
        exact ⟨⟨_, rfl, fun h => by simp at h⟩, rfl⟩
      · by_cases h2 : (was.size : Int) < pos
        · go_wp2
          go_meet
          exact ⟨⟨_, rfl, fun h => by simp at h⟩, rfl⟩
        · go_wp2
          go_meet
          exact ⟨⟨_, rfl, fun h => ⟨by omega, by omega, by simp at h; omega⟩⟩, rfl⟩
    case rest =>
      obtain ⟨⟨q, rfl, hq⟩, rfl⟩ := hcut
      cases q
      rotate_left
      · go_wp2
        go_ret
        exact ⟨⟨_, rfl⟩, ⟨_, _, _, _, _, _, _, _, _, HUP.out⟩, RFrm.refl _ _⟩
      obtain ⟨hp0, hp1, hp2⟩ := hq rfl
      clear hq hp
      obtain ⟨p, rfl⟩ := Int.eq_ofNat_of_zero_le hp0
      go_upto_region 10 with (first
        | (go_at_call 62; refine (rstep_any H0.out).mono ?_; rintro e w1 ⟨⟨cd, rfl⟩, hS⟩)
        | go_in)
      obtain ⟨hR1, hF1⟩ := H.out.step hS
      obtain ⟨fa1, pw1, off1, hs1⟩ := hR1.store
      have HR1 := Lib.hid hR1
      have HF1 := Lib.hid hF1
      have HS1 := Lib.hid hs1
      clear hR1 hF1 hS hs1
      by_cases hcd : cd = 0
      rotate_left
      · have e1 : (cd == 0) = false := by simpa using hcd
        go_wp2
        go_ret
        exact ⟨⟨_, rfl⟩, ⟨_, _, _, _, _, _, _, _, _, HR1.out.up (k' := k + 2) (by omega)⟩, HF1.out⟩
      subst hcd
      go_upto_if 61 with (fail)
      go_cut [12] (fun v wx => (∃ now : ByteArray, v = .string now ∧ now.size ≤ 1048576) ∧ wx = w1)
      case first =>
        go_wp2
        all_goals
          go_meet
          refine ⟨⟨_, rfl, ?_⟩, rfl⟩
          simp only [ByteArray.size_append, ByteArray.size_extract]
          omega
      case rest =>
        obtain ⟨⟨now, rfl, hnow⟩, rfl⟩ := hcut
        go_upto_region 15 with fail
        refine Inv.regionP (by kernel_rfl) ?_
        refine Inv.start0 ?_ (by kernel_rfl)
        refine Inv.regionT [0, 1, 2, 3, 4, 5, 6, 7, 8, 9, 10, 11, 12, 13] [] 14 [] [some 68, some 69, some 70, some 71, some 72, some 73, some 74, some 75, some 76, some 77, some 78, some 79, some 80, some 81, some 82] [[], [0], [], [2], [3, 1], [1, 4], [], [6], [7, 4], [5, 8], [], [10], [11], [12]] (by kernel_rfl) (by kernel_rfl) (by kernel_rfl) (by kernel_rfl) (by kernel_rfl) [Inv.MP.is (.pointer (some ⟨r, 0, none⟩)), Inv.MP.pure (fun v => ∃ x : Int, v = .int .i64 x), Inv.MP.is (.string was), Inv.MP.is (.int .i64 (was.size : Nat)), Inv.MP.pure (fun v => ∃ x : Int, v = .int .i64 x), Inv.MP.pure (fun v => ∃ x : Int, v = .int .i64 x), Inv.MP.is (.string now), Inv.MP.is (.int .i64 (now.size : Nat)), Inv.MP.pure (fun v => ∃ x : Int, v = .int .i64 x), Inv.MP.pure (fun v => ∃ x : Int, v = .int .i64 x), Inv.MP.is (.pointer (some ⟨r, 0, none⟩)), Inv.MP.is (.pointer (some ⟨r, 0, none⟩)), Inv.MP.is (.pointer (some ⟨r, 0, none⟩)), Inv.MP.is (.int .i64 cap)] [] (by intro x hx; cases hx) _ (by kernel_rfl) ⟨?_, ?_, ?_, ?_, ?_, ?_, ?_, ?_, ?_, ?_, ?_, ?_, ?_, ?_, trivial⟩ (fun vs wq hbq hv htie => ?_)
        · intro vs w' hb hv K hK
          clear hv
          have hK2 := hK.out
          clear hK
          simp only [Inv.putD, Inv.dst, List.foldl_cons, List.foldl_nil, List.getD_cons_zero, List.getD_cons_succ, Act.put, List.setIfInBounds_toArray, List.set_cons_zero, List.set_cons_succ, List.filterMap_cons, List.filterMap_nil, List.getElem?_toArray, List.getElem?_cons_zero, List.getElem?_cons_succ] at hK2 ⊢
          have hK := Lib.hid hK2
          clear hK2
          simp only [Region.wanted, Inv.yieldedD, Inv.dst, List.getD_cons_zero, List.getD_cons_succ]
          go_simp
          refine hK.out _ _ (Eq.refl _) (Below.refl _ _) (Inv.noTies _ _ _ _ _)
        · intro vs w' hb hv K hK
          have h0 : (Inv.MP.is (.pointer (some ⟨r, 0, none⟩))).p (vs 0) w' := hv 0 (by simp)
          clear hv
          have hK2 := hK.out
          clear hK
          simp only [Inv.putD, Inv.dst, List.foldl_cons, List.foldl_nil, List.getD_cons_zero, List.getD_cons_succ, Act.put, List.setIfInBounds_toArray, List.set_cons_zero, List.set_cons_succ, List.filterMap_cons, List.filterMap_nil, List.getElem?_toArray, List.getElem?_cons_zero, List.getElem?_cons_succ] at hK2 ⊢
          have hK := Lib.hid hK2
          clear hK2
          generalize vs 0 = y0 at *
          have h0 : y0 = _ := h0
          subst h0
          simp only [Region.wanted, Inv.yieldedD, Inv.dst, List.getD_cons_zero, List.getD_cons_succ]
          go_simp
          ((with_reducible refine (rused_any (HR1.out.kept (fun _ _ _ _ _ hx => hb_below hx hb (hb_lt hx))) (by have := HK.out; omega)).mono ?_); rintro e5 w5 ⟨⟨x5, rfl⟩, hb5⟩)
          go_wp2_with fail
          refine hK.out _ _ ⟨_, rfl⟩ hb5 (Inv.noTies _ _ _ _ _)
        · intro vs w' hb hv K hK
          clear hv
          have hK2 := hK.out
          clear hK
          simp only [Inv.putD, Inv.dst, List.foldl_cons, List.foldl_nil, List.getD_cons_zero, List.getD_cons_succ, Act.put, List.setIfInBounds_toArray, List.set_cons_zero, List.set_cons_succ, List.filterMap_cons, List.filterMap_nil, List.getElem?_toArray, List.getElem?_cons_zero, List.getElem?_cons_succ] at hK2 ⊢
          have hK := Lib.hid hK2
          clear hK2
          simp only [Region.wanted, Inv.yieldedD, Inv.dst, List.getD_cons_zero, List.getD_cons_succ]
          go_simp
          refine hK.out _ _ (Eq.refl _) (Below.refl _ _) (Inv.noTies _ _ _ _ _)
        · intro vs w' hb hv K hK
          have h2 : (Inv.MP.is (.string was)).p (vs 2) w' := hv 2 (by simp)
          clear hv
          have hK2 := hK.out
          clear hK
          simp only [Inv.putD, Inv.dst, List.foldl_cons, List.foldl_nil, List.getD_cons_zero, List.getD_cons_succ, Act.put, List.setIfInBounds_toArray, List.set_cons_zero, List.set_cons_succ, List.filterMap_cons, List.filterMap_nil, List.getElem?_toArray, List.getElem?_cons_zero, List.getElem?_cons_succ] at hK2 ⊢
          have hK := Lib.hid hK2
          clear hK2
          generalize vs 2 = y2 at *
          have h2 : y2 = _ := h2
          subst h2
          simp only [Region.wanted, Inv.yieldedD, Inv.dst, List.getD_cons_zero, List.getD_cons_succ]
          go_simp
          refine hK.out _ _ (Eq.refl _) (Below.refl _ _) (Inv.noTies _ _ _ _ _)
        · intro vs w' hb hv K hK
          have h1 : (Inv.MP.pure (fun v => ∃ x : Int, v = .int .i64 x)).p (vs 1) w' := hv 1 (by simp)
          have h3 : (Inv.MP.is (.int .i64 (was.size : Nat))).p (vs 3) w' := hv 3 (by simp)
          clear hv
          have hK2 := hK.out
          clear hK
          simp only [Inv.putD, Inv.dst, List.foldl_cons, List.foldl_nil, List.getD_cons_zero, List.getD_cons_succ, Act.put, List.setIfInBounds_toArray, List.set_cons_zero, List.set_cons_succ, List.filterMap_cons, List.filterMap_nil, List.getElem?_toArray, List.getElem?_cons_zero, List.getElem?_cons_succ] at hK2 ⊢
          have hK := Lib.hid hK2
          clear hK2
          generalize vs 1 = y1 at *
          generalize vs 3 = y3 at *
          have h3 : y3 = _ := h3
          subst h3
          simp only [Region.wanted, Inv.yieldedD, Inv.dst, List.getD_cons_zero, List.getD_cons_succ]
          go_simp
          ((with_reducible refine (rsectors_any was.size (by omega) _).mono ?_); rintro e5 w5 ⟨rfl, rfl⟩)
          go_wp2_with fail
          refine hK.out _ _ ⟨_, rfl⟩ (Below.refl _ _) (Inv.noTies _ _ _ _ _)
        · intro vs w' hb hv K hK
          have h1 : (Inv.MP.pure (fun v => ∃ x : Int, v = .int .i64 x)).p (vs 1) w' := hv 1 (by simp)
          have h4 : (Inv.MP.pure (fun v => ∃ x : Int, v = .int .i64 x)).p (vs 4) w' := hv 4 (by simp)
          clear hv
          have hK2 := hK.out
          clear hK
          simp only [Inv.putD, Inv.dst, List.foldl_cons, List.foldl_nil, List.getD_cons_zero, List.getD_cons_succ, Act.put, List.setIfInBounds_toArray, List.set_cons_zero, List.set_cons_succ, List.filterMap_cons, List.filterMap_nil, List.getElem?_toArray, List.getElem?_cons_zero, List.getElem?_cons_succ] at hK2 ⊢
          have hK := Lib.hid hK2
          clear hK2
          generalize vs 1 = y1 at *
          generalize vs 4 = y4 at *
          obtain ⟨x1, rfl⟩ := (show ∃ x : Int, y1 = .int .i64 x from h1)
          obtain ⟨x4, rfl⟩ := (show ∃ x : Int, y4 = .int .i64 x from h4)
          simp only [Region.wanted, Inv.yieldedD, Inv.dst, List.getD_cons_zero, List.getD_cons_succ]
          go_simp
          refine hK.out _ _ ⟨_, rfl⟩ (Below.refl _ _) (Inv.noTies _ _ _ _ _)
        · intro vs w' hb hv K hK
          clear hv
          have hK2 := hK.out
          clear hK
          simp only [Inv.putD, Inv.dst, List.foldl_cons, List.foldl_nil, List.getD_cons_zero, List.getD_cons_succ, Act.put, List.setIfInBounds_toArray, List.set_cons_zero, List.set_cons_succ, List.filterMap_cons, List.filterMap_nil, List.getElem?_toArray, List.getElem?_cons_zero, List.getElem?_cons_succ] at hK2 ⊢
          have hK := Lib.hid hK2
          clear hK2
          simp only [Region.wanted, Inv.yieldedD, Inv.dst, List.getD_cons_zero, List.getD_cons_succ]
          go_simp
          refine hK.out _ _ (Eq.refl _) (Below.refl _ _) (Inv.noTies _ _ _ _ _)
        · intro vs w' hb hv K hK
          have h6 : (Inv.MP.is (.string now)).p (vs 6) w' := hv 6 (by simp)
          clear hv
          have hK2 := hK.out
          clear hK
          simp only [Inv.putD, Inv.dst, List.foldl_cons, List.foldl_nil, List.getD_cons_zero, List.getD_cons_succ, Act.put, List.setIfInBounds_toArray, List.set_cons_zero, List.set_cons_succ, List.filterMap_cons, List.filterMap_nil, List.getElem?_toArray, List.getElem?_cons_zero, List.getElem?_cons_succ] at hK2 ⊢
          have hK := Lib.hid hK2
          clear hK2
          generalize vs 6 = y6 at *
          have h6 : y6 = _ := h6
          subst h6
          simp only [Region.wanted, Inv.yieldedD, Inv.dst, List.getD_cons_zero, List.getD_cons_succ]
          go_simp
          refine hK.out _ _ (Eq.refl _) (Below.refl _ _) (Inv.noTies _ _ _ _ _)
        · intro vs w' hb hv K hK
          have h4 : (Inv.MP.pure (fun v => ∃ x : Int, v = .int .i64 x)).p (vs 4) w' := hv 4 (by simp)
          have h7 : (Inv.MP.is (.int .i64 (now.size : Nat))).p (vs 7) w' := hv 7 (by simp)
          clear hv
          have hK2 := hK.out
          clear hK
          simp only [Inv.putD, Inv.dst, List.foldl_cons, List.foldl_nil, List.getD_cons_zero, List.getD_cons_succ, Act.put, List.setIfInBounds_toArray, List.set_cons_zero, List.set_cons_succ, List.filterMap_cons, List.filterMap_nil, List.getElem?_toArray, List.getElem?_cons_zero, List.getElem?_cons_succ] at hK2 ⊢
          have hK := Lib.hid hK2
          clear hK2
          generalize vs 4 = y4 at *
          generalize vs 7 = y7 at *
          have h7 : y7 = _ := h7
          subst h7
          simp only [Region.wanted, Inv.yieldedD, Inv.dst, List.getD_cons_zero, List.getD_cons_succ]
          go_simp
          ((with_reducible refine (rsectors_any now.size (by omega) _).mono ?_); rintro e5 w5 ⟨rfl, rfl⟩)
          go_wp2_with fail
          refine hK.out _ _ ⟨_, rfl⟩ (Below.refl _ _) (Inv.noTies _ _ _ _ _)
        · intro vs w' hb hv K hK
          have h5 : (Inv.MP.pure (fun v => ∃ x : Int, v = .int .i64 x)).p (vs 5) w' := hv 5 (by simp)
          have h8 : (Inv.MP.pure (fun v => ∃ x : Int, v = .int .i64 x)).p (vs 8) w' := hv 8 (by simp)
          clear hv
          have hK2 := hK.out
          clear hK
          simp only [Inv.putD, Inv.dst, List.foldl_cons, List.foldl_nil, List.getD_cons_zero, List.getD_cons_succ, Act.put, List.setIfInBounds_toArray, List.set_cons_zero, List.set_cons_succ, List.filterMap_cons, List.filterMap_nil, List.getElem?_toArray, List.getElem?_cons_zero, List.getElem?_cons_succ] at hK2 ⊢
          have hK := Lib.hid hK2
          clear hK2
          generalize vs 5 = y5 at *
          generalize vs 8 = y8 at *
          obtain ⟨x5, rfl⟩ := (show ∃ x : Int, y5 = .int .i64 x from h5)
          obtain ⟨x8, rfl⟩ := (show ∃ x : Int, y8 = .int .i64 x from h8)
          simp only [Region.wanted, Inv.yieldedD, Inv.dst, List.getD_cons_zero, List.getD_cons_succ]
          go_simp
          refine hK.out _ _ ⟨_, rfl⟩ (Below.refl _ _) (Inv.noTies _ _ _ _ _)
        · intro vs w' hb hv K hK
          clear hv
          have hK2 := hK.out
          clear hK
          simp only [Inv.putD, Inv.dst, List.foldl_cons, List.foldl_nil, List.getD_cons_zero, List.getD_cons_succ, Act.put, List.setIfInBounds_toArray, List.set_cons_zero, List.set_cons_succ, List.filterMap_cons, List.filterMap_nil, List.getElem?_toArray, List.getElem?_cons_zero, List.getElem?_cons_succ] at hK2 ⊢
          have hK := Lib.hid hK2
          clear hK2
          simp only [Region.wanted, Inv.yieldedD, Inv.dst, List.getD_cons_zero, List.getD_cons_succ]
          go_simp
          refine hK.out _ _ (Eq.refl _) (Below.refl _ _) (Inv.noTies _ _ _ _ _)
        · intro vs w' hb hv K hK
          have h10 : (Inv.MP.is (.pointer (some ⟨r, 0, none⟩))).p (vs 10) w' := hv 10 (by simp)
          clear hv
          have hK2 := hK.out
          clear hK
          simp only [Inv.putD, Inv.dst, List.foldl_cons, List.foldl_nil, List.getD_cons_zero, List.getD_cons_succ, Act.put, List.setIfInBounds_toArray, List.set_cons_zero, List.set_cons_succ, List.filterMap_cons, List.filterMap_nil, List.getElem?_toArray, List.getElem?_cons_zero, List.getElem?_cons_succ] at hK2 ⊢
          have hK := Lib.hid hK2
          clear hK2
          generalize vs 10 = y10 at *
          have h10 : y10 = _ := h10
          subst h10
          simp only [Region.wanted, Inv.yieldedD, Inv.dst, List.getD_cons_zero, List.getD_cons_succ]
          go_simp
          refine hK.out _ _ (Eq.refl _) (Below.refl _ _) (Inv.noTies _ _ _ _ _)
        · intro vs w' hb hv K hK
          have h11 : (Inv.MP.is (.pointer (some ⟨r, 0, none⟩))).p (vs 11) w' := hv 11 (by simp)
          clear hv
          have hK2 := hK.out
          clear hK
          simp only [Inv.putD, Inv.dst, List.foldl_cons, List.foldl_nil, List.getD_cons_zero, List.getD_cons_succ, Act.put, List.setIfInBounds_toArray, List.set_cons_zero, List.set_cons_succ, List.filterMap_cons, List.filterMap_nil, List.getElem?_toArray, List.getElem?_cons_zero, List.getElem?_cons_succ] at hK2 ⊢
          have hK := Lib.hid hK2
          clear hK2
          generalize vs 11 = y11 at *
          have h11 : y11 = _ := h11
          subst h11
          simp only [Region.wanted, Inv.yieldedD, Inv.dst, List.getD_cons_zero, List.getD_cons_succ]
          go_simp
          refine hK.out _ _ (Eq.refl _) (Below.refl _ _) (Inv.noTies _ _ _ _ _)
        · intro vs w' hb hv K hK
          have h12 : (Inv.MP.is (.pointer (some ⟨r, 0, none⟩))).p (vs 12) w' := hv 12 (by simp)
          clear hv
          have hK2 := hK.out
          clear hK
          simp only [Inv.putD, Inv.dst, List.foldl_cons, List.foldl_nil, List.getD_cons_zero, List.getD_cons_succ, Act.put, List.setIfInBounds_toArray, List.set_cons_zero, List.set_cons_succ, List.filterMap_cons, List.filterMap_nil, List.getElem?_toArray, List.getElem?_cons_zero, List.getElem?_cons_succ] at hK2 ⊢
          have hK := Lib.hid hK2
          clear hK2
          generalize vs 12 = y12 at *
          have h12 : y12 = _ := h12
          subst h12
          have c0 := hb_at (hb_below HS1.out hb (hb_lt HS1.out)) 0 rfl
          simp only [Region.wanted, Inv.yieldedD, Inv.dst, List.getD_cons_zero, List.getD_cons_succ]
          go_simp
          refine hK.out _ _ (Eq.refl _) (Below.refl _ _) (Inv.noTies _ _ _ _ _)
        · have h9 : ∃ x : Int, vs 9 = .int .i64 x := hv 9 (by simp)
          have h13 : vs 13 = .int .i64 cap := hv 13 (by simp)
          clear hv htie
          simp only [Inv.putD, Inv.dst, List.foldl_cons, List.foldl_nil, List.getD_cons_zero, List.getD_cons_succ, Act.put, List.setIfInBounds_toArray, List.set_cons_zero, List.set_cons_succ, List.filterMap_cons, List.filterMap_nil, List.getElem?_toArray, List.getElem?_cons_zero, List.getElem?_cons_succ]
          generalize vs 0 = yy0 at *
          generalize vs 1 = yy1 at *
          generalize vs 2 = yy2 at *
          generalize vs 3 = yy3 at *
          generalize vs 4 = yy4 at *
          generalize vs 5 = yy5 at *
          generalize vs 6 = yy6 at *
          generalize vs 7 = yy7 at *
          generalize vs 8 = yy8 at *
          generalize vs 9 = yy9 at *
          generalize vs 10 = yy10 at *
          generalize vs 11 = yy11 at *
          generalize vs 12 = yy12 at *
          generalize vs 13 = yy13 at *
          obtain ⟨x9, rfl⟩ := h9
          subst h13
          have hR2 := HR1.out.kept (w' := wq) fun _ _ _ _ _ hx => hb_below hx hbq (hb_lt hx)
          have HR2 := Lib.hid hR2
          have HF2 := Lib.hid (HF1.out.trans (RFrm.ofBelow hbq (Nat.le_trans HB.out HF1.out.size)))
          have HB2 : RowKit.Hid (B ≤ wq.heap.size) := Lib.hid (Nat.le_trans (Nat.le_trans HB.out HF1.out.size) hbq.size)
          clear hR2 hbq HS1 HR1 HF1
          by_cases hroom : cap < x9
          · go_wp2
            go_ret
            exact ⟨⟨_, rfl⟩, ⟨_, _, _, _, _, _, _, _, _, HR2.out.up (k' := k + 2) (by omega)⟩, HF2.out⟩
          · go_upto_region 17 with fail
            obtain ⟨fa2, pw2, off2, h2⟩ := HR2.out.store
            have H2 := Lib.hid h2
            have d1 : wq.cell? ⟨r, 1, none⟩ = some (.slice fo fs.length fc) := hb_at h2 1 rfl
            obtain ⟨i0, hi, hz0, hz1, hz2⟩ := info_parts info108
            have hba : Below wq.heap.size wq (wq.alloc (.cells #[.string ⟨#[]⟩, .string ⟨#[]⟩] 108)) := below_alloc _ _
            have hRa := HR2.out.kept (w' := wq.alloc (.cells #[.string ⟨#[]⟩, .string ⟨#[]⟩] 108)) fun _ _ _ _ _ hx => hb_alloc hx _
            obtain ⟨v5, w5, hr5, ho5, hg5⟩ := append_rf _ B _ fs ⟨⟨#[]⟩, ⟨#[]⟩⟩ hRa.files wq.heap.size 1 (hb_new _ _) (by have := HR2.out.few.1; have := HK.out; omega) (Nat.le_trans HB2.out hba.size)
            obtain ⟨a5, c5, hv5, _⟩ := own_sl ho5
            rw [show (fs ++ [(⟨⟨#[]⟩, ⟨#[]⟩⟩ : RF)]).length = fs.length + 1 by simp] at hv5
            subst hv5
            obtain ⟨hR5, hF5⟩ := hRa.grow hg5 ho5 (Nat.le_trans HB2.out hba.size) ⟨Nat.zero_le _, Nat.zero_le _⟩
            obtain ⟨fa5, pw5, off5, hs5⟩ := hRa.store
            have hs5' := hb_grown hs5 hg5 (own_ne hRa.files hs5 (fun cs f e2 => by simp at e2))
            have f1 := hb_free hs5' 1
            have e1 := hb_at hs5' 1 rfl
            have HR5 := Lib.hid hR5
            have HF5 := Lib.hid (HF2.out.trans ((RFrm.ofBelow hba HB2.out).trans hF5))
            have HC : RowKit.Hid (Calls Try.prog 64 #[.pointer (some ⟨r, 0, none⟩), .agg #[.int .i64 0, .string s, .string ⟨#[]⟩, .int .i64 (fs.length : Nat)]] (w5.setCell ⟨r, 1, none⟩ (.slice a5 (fs.length + 1) c5)) (TurnedP B r (k + 1) cap (.slice a5 (fs.length + 1) c5) lv (fs ++ [⟨⟨#[]⟩, ⟨#[]⟩⟩]) ls (w5.setCell ⟨r, 1, none⟩ (.slice a5 (fs.length + 1) c5)))) := Lib.hid (rturned_any hR5 (by have := HK.out; omega) (Nat.le_trans HB.out HF5.out.size) ⟨0, s, ⟨#[]⟩, fs.length⟩ (fun _ => by simp) (by show 0 ≤ 1000; omega))
            clear h2 hs5 hs5' hg5 ho5 hba hRa hR5 hF5
            have HX : RowKit.Hid ((fs ++ [(⟨⟨#[]⟩, ⟨#[]⟩⟩ : RF)])[fs.length]? = some ⟨⟨#[]⟩, ⟨#[]⟩⟩) := Lib.hid (by rw [List.getElem?_append_right (Nat.le_refl _)]; simp)
            go_wp2_with (first
              | (at_builtin; refine wpList_append_at rfl _ _ rfl rfl rfl rfl hr5 ?_)
              | (go_at_call 64; ((with_reducible refine HC.out.mono ?_); rintro e w6 ⟨rfl, ⟨dv6, tv6, ds6, ts6, hR6⟩, hF6⟩; have HR6 := Lib.hid hR6; have HF6 := Lib.hid hF6; obtain ⟨fa6, pw6, off6, h6⟩ := hR6.store; have d6 : w6.cell? ⟨r, 1, none⟩ = some (.slice a5 (fs.length + 1) c5) := hb_at h6 1 rfl; obtain ⟨g6, eg6, d7, f7⟩ := row_last hR6.files; subst eg6; clear hR6 hF6 h6))
              | go_in)
            go_ret
            have hr6 := HR6.out
            rw [show fs.length + 1 = (fs ++ [(⟨⟨#[]⟩, ⟨#[]⟩⟩ : RF)]).length by simp] at hr6
            obtain ⟨hr3, hf3⟩ := hr6.refile (t := now) (y := ⟨now, ⟨#[]⟩⟩) HX.out (j := 0) (by omega) rfl ⟨hnow, Nat.zero_le _⟩
            exact ⟨⟨_, rfl⟩, ⟨_, _, _, _, _, _, _, _, _, hr3⟩, (HF5.out.trans HF6.out).trans hf3⟩
  · obtain ⟨f, hf⟩ : ∃ f, fs[i]? = some f := ⟨_, List.getElem?_eq_getElem hi⟩
    obtain ⟨g, rfl, hBg, hcell⟩ := row_at (cs := RF.cells) (fun _ => rfl) H.out.files hf
    have d2 : w.cell? ⟨g, i * 2, none⟩ = some (.string f.now) := hcell 0 _ rfl
    have HSM := Lib.hid (H.out.small f (List.mem_of_getElem? hf))
    have hwz : f.now.size ≤ 1048576 := HSM.out.1
    have HF0 := Lib.hid hf
    clear hf hcell
    go_upto_region 7 with (go_at_call 61; ((with_reducible refine HFI.out.mono ?_); rintro e w' ⟨rfl, rfl⟩))
    obtain ⟨was, hwas⟩ : ∃ x : ByteArray, x = f.now := ⟨_, rfl⟩
    have HF : RowKit.Hid (fs[i]? = some ⟨was, f.lasts⟩) := Lib.hid (by rw [hwas]; exact HF0.out)
    rw [← hwas] at hwz d2 ⊢
    clear hwas HF0
    go_cut [46] (fun v wx => (∃ q : Bool, v = .bool q ∧ (q = false → 0 ≤ pos ∧ pos ≤ (was.size : Int) ∧ (b.size : Int) ≤ 1048576 - pos)) ∧ wx = w)
    case first =>
      by_cases h1 : pos < 0
      · go_wp2
        go_meet
        exact ⟨⟨_, rfl, fun h => by simp at h⟩, rfl⟩
      · by_cases h2 : (was.size : Int) < pos
        · go_wp2
          go_meet
          exact ⟨⟨_, rfl, fun h => by simp at h⟩, rfl⟩
        · go_wp2
          go_meet
          exact ⟨⟨_, rfl, fun h => ⟨by omega, by omega, by simp at h; omega⟩⟩, rfl⟩
    case rest =>
      obtain ⟨⟨q, rfl, hq⟩, rfl⟩ := hcut
      cases q
      rotate_left
      · go_wp2
        go_ret
        exact ⟨⟨_, rfl⟩, ⟨_, _, _, _, _, _, _, _, _, HUP.out⟩, RFrm.refl _ _⟩
      obtain ⟨hp0, hp1, hp2⟩ := hq rfl
      clear hq hp
      obtain ⟨p, rfl⟩ := Int.eq_ofNat_of_zero_le hp0
      go_upto_region 10 with (first
        | (go_at_call 62; refine (rstep_any H0.out).mono ?_; rintro e w1 ⟨⟨cd, rfl⟩, hS⟩)
        | go_in)
      obtain ⟨hR1, hF1⟩ := H.out.step hS
      obtain ⟨fa1, pw1, off1, hs1⟩ := hR1.store
      have HR1 := Lib.hid hR1
      have HF1 := Lib.hid hF1
      have HS1 := Lib.hid hs1
      clear hR1 hF1 hS hs1
      by_cases hcd : cd = 0
      rotate_left
      · have e1 : (cd == 0) = false := by simpa using hcd
        go_wp2
        go_ret
        exact ⟨⟨_, rfl⟩, ⟨_, _, _, _, _, _, _, _, _, HR1.out.up (k' := k + 2) (by omega)⟩, HF1.out⟩
      subst hcd
      go_upto_if 61 with (fail)
      go_cut [12] (fun v wx => (∃ now : ByteArray, v = .string now ∧ now.size ≤ 1048576) ∧ wx = w1)
      case first =>
        go_wp2
        all_goals
          go_meet
          refine ⟨⟨_, rfl, ?_⟩, rfl⟩
          simp only [ByteArray.size_append, ByteArray.size_extract]
          omega
      case rest =>
        obtain ⟨⟨now, rfl, hnow⟩, rfl⟩ := hcut
        go_upto_region 15 with fail
        refine Inv.regionP (by kernel_rfl) ?_
        refine Inv.start0 ?_ (by kernel_rfl)
        refine Inv.regionT [0, 1, 2, 3, 4, 5, 6, 7, 8, 9, 10, 11, 12, 13] [] 14 [] [some 68, some 69, some 70, some 71, some 72, some 73, some 74, some 75, some 76, some 77, some 78, some 79, some 80, some 81, some 82] [[], [0], [], [2], [3, 1], [1, 4], [], [6], [7, 4], [5, 8], [], [10], [11], [12]] (by kernel_rfl) (by kernel_rfl) (by kernel_rfl) (by kernel_rfl) (by kernel_rfl) [Inv.MP.is (.pointer (some ⟨r, 0, none⟩)), Inv.MP.pure (fun v => ∃ x : Int, v = .int .i64 x), Inv.MP.is (.string was), Inv.MP.is (.int .i64 (was.size : Nat)), Inv.MP.pure (fun v => ∃ x : Int, v = .int .i64 x), Inv.MP.pure (fun v => ∃ x : Int, v = .int .i64 x), Inv.MP.is (.string now), Inv.MP.is (.int .i64 (now.size : Nat)), Inv.MP.pure (fun v => ∃ x : Int, v = .int .i64 x), Inv.MP.pure (fun v => ∃ x : Int, v = .int .i64 x), Inv.MP.is (.pointer (some ⟨r, 0, none⟩)), Inv.MP.is (.pointer (some ⟨r, 0, none⟩)), Inv.MP.is (.pointer (some ⟨r, 0, none⟩)), Inv.MP.is (.int .i64 cap)] [] (by intro x hx; cases hx) _ (by kernel_rfl) ⟨?_, ?_, ?_, ?_, ?_, ?_, ?_, ?_, ?_, ?_, ?_, ?_, ?_, ?_, trivial⟩ (fun vs wq hbq hv htie => ?_)
        · intro vs w' hb hv K hK
          clear hv
          have hK2 := hK.out
          clear hK
          simp only [Inv.putD, Inv.dst, List.foldl_cons, List.foldl_nil, List.getD_cons_zero, List.getD_cons_succ, Act.put, List.setIfInBounds_toArray, List.set_cons_zero, List.set_cons_succ, List.filterMap_cons, List.filterMap_nil, List.getElem?_toArray, List.getElem?_cons_zero, List.getElem?_cons_succ] at hK2 ⊢
          have hK := Lib.hid hK2
          clear hK2
          simp only [Region.wanted, Inv.yieldedD, Inv.dst, List.getD_cons_zero, List.getD_cons_succ]
          go_simp
          refine hK.out _ _ (Eq.refl _) (Below.refl _ _) (Inv.noTies _ _ _ _ _)
        · intro vs w' hb hv K hK
          have h0 : (Inv.MP.is (.pointer (some ⟨r, 0, none⟩))).p (vs 0) w' := hv 0 (by simp)
          clear hv
          have hK2 := hK.out
          clear hK
          simp only [Inv.putD, Inv.dst, List.foldl_cons, List.foldl_nil, List.getD_cons_zero, List.getD_cons_succ, Act.put, List.setIfInBounds_toArray, List.set_cons_zero, List.set_cons_succ, List.filterMap_cons, List.filterMap_nil, List.getElem?_toArray, List.getElem?_cons_zero, List.getElem?_cons_succ] at hK2 ⊢
          have hK := Lib.hid hK2
          clear hK2
          generalize vs 0 = y0 at *
          have h0 : y0 = _ := h0
          subst h0
          simp only [Region.wanted, Inv.yieldedD, Inv.dst, List.getD_cons_zero, List.getD_cons_succ]
          go_simp
          ((with_reducible refine (rused_any (HR1.out.kept (fun _ _ _ _ _ hx => hb_below hx hb (hb_lt hx))) (by have := HK.out; omega)).mono ?_); rintro e5 w5 ⟨⟨x5, rfl⟩, hb5⟩)
          go_wp2_with fail
          refine hK.out _ _ ⟨_, rfl⟩ hb5 (Inv.noTies _ _ _ _ _)
        · intro vs w' hb hv K hK
          clear hv
          have hK2 := hK.out
          clear hK
          simp only [Inv.putD, Inv.dst, List.foldl_cons, List.foldl_nil, List.getD_cons_zero, List.getD_cons_succ, Act.put, List.setIfInBounds_toArray, List.set_cons_zero, List.set_cons_succ, List.filterMap_cons, List.filterMap_nil, List.getElem?_toArray, List.getElem?_cons_zero, List.getElem?_cons_succ] at hK2 ⊢
          have hK := Lib.hid hK2
          clear hK2
          simp only [Region.wanted, Inv.yieldedD, Inv.dst, List.getD_cons_zero, List.getD_cons_succ]
          go_simp
          refine hK.out _ _ (Eq.refl _) (Below.refl _ _) (Inv.noTies _ _ _ _ _)
        · intro vs w' hb hv K hK
          have h2 : (Inv.MP.is (.string was)).p (vs 2) w' := hv 2 (by simp)
          clear hv
          have hK2 := hK.out
          clear hK
          simp only [Inv.putD, Inv.dst, List.foldl_cons, List.foldl_nil, List.getD_cons_zero, List.getD_cons_succ, Act.put, List.setIfInBounds_toArray, List.set_cons_zero, List.set_cons_succ, List.filterMap_cons, List.filterMap_nil, List.getElem?_toArray, List.getElem?_cons_zero, List.getElem?_cons_succ] at hK2 ⊢
          have hK := Lib.hid hK2
          clear hK2
          generalize vs 2 = y2 at *
          have h2 : y2 = _ := h2
          subst h2
          simp only [Region.wanted, Inv.yieldedD, Inv.dst, List.getD_cons_zero, List.getD_cons_succ]
          go_simp
          refine hK.out _ _ (Eq.refl _) (Below.refl _ _) (Inv.noTies _ _ _ _ _)
        · intro vs w' hb hv K hK
          have h1 : (Inv.MP.pure (fun v => ∃ x : Int, v = .int .i64 x)).p (vs 1) w' := hv 1 (by simp)
          have h3 : (Inv.MP.is (.int .i64 (was.size : Nat))).p (vs 3) w' := hv 3 (by simp)
          clear hv
          have hK2 := hK.out
          clear hK
          simp only [Inv.putD, Inv.dst, List.foldl_cons, List.foldl_nil, List.getD_cons_zero, List.getD_cons_succ, Act.put, List.setIfInBounds_toArray, List.set_cons_zero, List.set_cons_succ, List.filterMap_cons, List.filterMap_nil, List.getElem?_toArray, List.getElem?_cons_zero, List.getElem?_cons_succ] at hK2 ⊢
          have hK := Lib.hid hK2
          clear hK2
          generalize vs 1 = y1 at *
          generalize vs 3 = y3 at *
          have h3 : y3 = _ := h3
          subst h3
          simp only [Region.wanted, Inv.yieldedD, Inv.dst, List.getD_cons_zero, List.getD_cons_succ]
          go_simp
          ((with_reducible refine (rsectors_any was.size (by omega) _).mono ?_); rintro e5 w5 ⟨rfl, rfl⟩)
          go_wp2_with fail
          refine hK.out _ _ ⟨_, rfl⟩ (Below.refl _ _) (Inv.noTies _ _ _ _ _)
        · intro vs w' hb hv K hK
          have h1 : (Inv.MP.pure (fun v => ∃ x : Int, v = .int .i64 x)).p (vs 1) w' := hv 1 (by simp)
          have h4 : (Inv.MP.pure (fun v => ∃ x : Int, v = .int .i64 x)).p (vs 4) w' := hv 4 (by simp)
          clear hv
          have hK2 := hK.out
          clear hK
          simp only [Inv.putD, Inv.dst, List.foldl_cons, List.foldl_nil, List.getD_cons_zero, List.getD_cons_succ, Act.put, List.setIfInBounds_toArray, List.set_cons_zero, List.set_cons_succ, List.filterMap_cons, List.filterMap_nil, List.getElem?_toArray, List.getElem?_cons_zero, List.getElem?_cons_succ] at hK2 ⊢
          have hK := Lib.hid hK2
          clear hK2
          generalize vs 1 = y1 at *
          generalize vs 4 = y4 at *
          obtain ⟨x1, rfl⟩ := (show ∃ x : Int, y1 = .int .i64 x from h1)
          obtain ⟨x4, rfl⟩ := (show ∃ x : Int, y4 = .int .i64 x from h4)
          simp only [Region.wanted, Inv.yieldedD, Inv.dst, List.getD_cons_zero, List.getD_cons_succ]
          go_simp
          refine hK.out _ _ ⟨_, rfl⟩ (Below.refl _ _) (Inv.noTies _ _ _ _ _)
        · intro vs w' hb hv K hK
          clear hv
          have hK2 := hK.out
          clear hK
          simp only [Inv.putD, Inv.dst, List.foldl_cons, List.foldl_nil, List.getD_cons_zero, List.getD_cons_succ, Act.put, List.setIfInBounds_toArray, List.set_cons_zero, List.set_cons_succ, List.filterMap_cons, List.filterMap_nil, List.getElem?_toArray, List.getElem?_cons_zero, List.getElem?_cons_succ] at hK2 ⊢
          have hK := Lib.hid hK2
          clear hK2
          simp only [Region.wanted, Inv.yieldedD, Inv.dst, List.getD_cons_zero, List.getD_cons_succ]
          go_simp
          refine hK.out _ _ (Eq.refl _) (Below.refl _ _) (Inv.noTies _ _ _ _ _)
        · intro vs w' hb hv K hK
          have h6 : (Inv.MP.is (.string now)).p (vs 6) w' := hv 6 (by simp)
          clear hv
          have hK2 := hK.out
          clear hK
          simp only [Inv.putD, Inv.dst, List.foldl_cons, List.foldl_nil, List.getD_cons_zero, List.getD_cons_succ, Act.put, List.setIfInBounds_toArray, List.set_cons_zero, List.set_cons_succ, List.filterMap_cons, List.filterMap_nil, List.getElem?_toArray, List.getElem?_cons_zero, List.getElem?_cons_succ] at hK2 ⊢
          have hK := Lib.hid hK2
          clear hK2
          generalize vs 6 = y6 at *
          have h6 : y6 = _ := h6
          subst h6
          simp only [Region.wanted, Inv.yieldedD, Inv.dst, List.getD_cons_zero, List.getD_cons_succ]
          go_simp
          refine hK.out _ _ (Eq.refl _) (Below.refl _ _) (Inv.noTies _ _ _ _ _)
        · intro vs w' hb hv K hK
          have h4 : (Inv.MP.pure (fun v => ∃ x : Int, v = .int .i64 x)).p (vs 4) w' := hv 4 (by simp)
          have h7 : (Inv.MP.is (.int .i64 (now.size : Nat))).p (vs 7) w' := hv 7 (by simp)
          clear hv
          have hK2 := hK.out
          clear hK
          simp only [Inv.putD, Inv.dst, List.foldl_cons, List.foldl_nil, List.getD_cons_zero, List.getD_cons_succ, Act.put, List.setIfInBounds_toArray, List.set_cons_zero, List.set_cons_succ, List.filterMap_cons, List.filterMap_nil, List.getElem?_toArray, List.getElem?_cons_zero, List.getElem?_cons_succ] at hK2 ⊢
          have hK := Lib.hid hK2
          clear hK2
          generalize vs 4 = y4 at *
          generalize vs 7 = y7 at *
          have h7 : y7 = _ := h7
          subst h7
          simp only [Region.wanted, Inv.yieldedD, Inv.dst, List.getD_cons_zero, List.getD_cons_succ]
          go_simp
          ((with_reducible refine (rsectors_any now.size (by omega) _).mono ?_); rintro e5 w5 ⟨rfl, rfl⟩)
          go_wp2_with fail
          refine hK.out _ _ ⟨_, rfl⟩ (Below.refl _ _) (Inv.noTies _ _ _ _ _)
        · intro vs w' hb hv K hK
          have h5 : (Inv.MP.pure (fun v => ∃ x : Int, v = .int .i64 x)).p (vs 5) w' := hv 5 (by simp)
          have h8 : (Inv.MP.pure (fun v => ∃ x : Int, v = .int .i64 x)).p (vs 8) w' := hv 8 (by simp)
          clear hv
          have hK2 := hK.out
          clear hK
          simp only [Inv.putD, Inv.dst, List.foldl_cons, List.foldl_nil, List.getD_cons_zero, List.getD_cons_succ, Act.put, List.setIfInBounds_toArray, List.set_cons_zero, List.set_cons_succ, List.filterMap_cons, List.filterMap_nil, List.getElem?_toArray, List.getElem?_cons_zero, List.getElem?_cons_succ] at hK2 ⊢
          have hK := Lib.hid hK2
          clear hK2
          generalize vs 5 = y5 at *
          generalize vs 8 = y8 at *
          obtain ⟨x5, rfl⟩ := (show ∃ x : Int, y5 = .int .i64 x from h5)
          obtain ⟨x8, rfl⟩ := (show ∃ x : Int, y8 = .int .i64 x from h8)
          simp only [Region.wanted, Inv.yieldedD, Inv.dst, List.getD_cons_zero, List.getD_cons_succ]
          go_simp
          refine hK.out _ _ ⟨_, rfl⟩ (Below.refl _ _) (Inv.noTies _ _ _ _ _)
        · intro vs w' hb hv K hK
          clear hv
          have hK2 := hK.out
          clear hK
          simp only [Inv.putD, Inv.dst, List.foldl_cons, List.foldl_nil, List.getD_cons_zero, List.getD_cons_succ, Act.put, List.setIfInBounds_toArray, List.set_cons_zero, List.set_cons_succ, List.filterMap_cons, List.filterMap_nil, List.getElem?_toArray, List.getElem?_cons_zero, List.getElem?_cons_succ] at hK2 ⊢
          have hK := Lib.hid hK2
          clear hK2
          simp only [Region.wanted, Inv.yieldedD, Inv.dst, List.getD_cons_zero, List.getD_cons_succ]
          go_simp
          refine hK.out _ _ (Eq.refl _) (Below.refl _ _) (Inv.noTies _ _ _ _ _)
        · intro vs w' hb hv K hK
          have h10 : (Inv.MP.is (.pointer (some ⟨r, 0, none⟩))).p (vs 10) w' := hv 10 (by simp)
          clear hv
          have hK2 := hK.out
          clear hK
          simp only [Inv.putD, Inv.dst, List.foldl_cons, List.foldl_nil, List.getD_cons_zero, List.getD_cons_succ, Act.put, List.setIfInBounds_toArray, List.set_cons_zero, List.set_cons_succ, List.filterMap_cons, List.filterMap_nil, List.getElem?_toArray, List.getElem?_cons_zero, List.getElem?_cons_succ] at hK2 ⊢
          have hK := Lib.hid hK2
          clear hK2
          generalize vs 10 = y10 at *
          have h10 : y10 = _ := h10
          subst h10
          simp only [Region.wanted, Inv.yieldedD, Inv.dst, List.getD_cons_zero, List.getD_cons_succ]
          go_simp
          refine hK.out _ _ (Eq.refl _) (Below.refl _ _) (Inv.noTies _ _ _ _ _)
        · intro vs w' hb hv K hK
          have h11 : (Inv.MP.is (.pointer (some ⟨r, 0, none⟩))).p (vs 11) w' := hv 11 (by simp)
          clear hv
          have hK2 := hK.out
          clear hK
          simp only [Inv.putD, Inv.dst, List.foldl_cons, List.foldl_nil, List.getD_cons_zero, List.getD_cons_succ, Act.put, List.setIfInBounds_toArray, List.set_cons_zero, List.set_cons_succ, List.filterMap_cons, List.filterMap_nil, List.getElem?_toArray, List.getElem?_cons_zero, List.getElem?_cons_succ] at hK2 ⊢
          have hK := Lib.hid hK2
          clear hK2
          generalize vs 11 = y11 at *
          have h11 : y11 = _ := h11
          subst h11
          simp only [Region.wanted, Inv.yieldedD, Inv.dst, List.getD_cons_zero, List.getD_cons_succ]
          go_simp
          refine hK.out _ _ (Eq.refl _) (Below.refl _ _) (Inv.noTies _ _ _ _ _)
        · intro vs w' hb hv K hK
          have h12 : (Inv.MP.is (.pointer (some ⟨r, 0, none⟩))).p (vs 12) w' := hv 12 (by simp)
          clear hv
          have hK2 := hK.out
          clear hK
          simp only [Inv.putD, Inv.dst, List.foldl_cons, List.foldl_nil, List.getD_cons_zero, List.getD_cons_succ, Act.put, List.setIfInBounds_toArray, List.set_cons_zero, List.set_cons_succ, List.filterMap_cons, List.filterMap_nil, List.getElem?_toArray, List.getElem?_cons_zero, List.getElem?_cons_succ] at hK2 ⊢
          have hK := Lib.hid hK2
          clear hK2
          generalize vs 12 = y12 at *
          have h12 : y12 = _ := h12
          subst h12
          have c0 := hb_at (hb_below HS1.out hb (hb_lt HS1.out)) 0 rfl
          simp only [Region.wanted, Inv.yieldedD, Inv.dst, List.getD_cons_zero, List.getD_cons_succ]
          go_simp
          refine hK.out _ _ (Eq.refl _) (Below.refl _ _) (Inv.noTies _ _ _ _ _)
        · have h9 : ∃ x : Int, vs 9 = .int .i64 x := hv 9 (by simp)
          have h13 : vs 13 = .int .i64 cap := hv 13 (by simp)
          clear hv htie
          simp only [Inv.putD, Inv.dst, List.foldl_cons, List.foldl_nil, List.getD_cons_zero, List.getD_cons_succ, Act.put, List.setIfInBounds_toArray, List.set_cons_zero, List.set_cons_succ, List.filterMap_cons, List.filterMap_nil, List.getElem?_toArray, List.getElem?_cons_zero, List.getElem?_cons_succ]
          generalize vs 0 = yy0 at *
          generalize vs 1 = yy1 at *
          generalize vs 2 = yy2 at *
          generalize vs 3 = yy3 at *
          generalize vs 4 = yy4 at *
          generalize vs 5 = yy5 at *
          generalize vs 6 = yy6 at *
          generalize vs 7 = yy7 at *
          generalize vs 8 = yy8 at *
          generalize vs 9 = yy9 at *
          generalize vs 10 = yy10 at *
          generalize vs 11 = yy11 at *
          generalize vs 12 = yy12 at *
          generalize vs 13 = yy13 at *
          obtain ⟨x9, rfl⟩ := h9
          subst h13
          have hR2 := HR1.out.kept (w' := wq) fun _ _ _ _ _ hx => hb_below hx hbq (hb_lt hx)
          have HR2 := Lib.hid hR2
          have HF2 := Lib.hid (HF1.out.trans (RFrm.ofBelow hbq (Nat.le_trans HB.out HF1.out.size)))
          have HB2 : RowKit.Hid (B ≤ wq.heap.size) := Lib.hid (Nat.le_trans (Nat.le_trans HB.out HF1.out.size) hbq.size)
          clear hR2 hbq HS1 HR1 HF1
          by_cases hroom : cap < x9
          · go_wp2
            go_ret
            exact ⟨⟨_, rfl⟩, ⟨_, _, _, _, _, _, _, _, _, HR2.out.up (k' := k + 2) (by omega)⟩, HF2.out⟩
          · go_upto_region 17 with fail
            obtain ⟨fa2, pw2, off2, h2⟩ := HR2.out.store
            have d1 : wq.cell? ⟨r, 1, none⟩ = some (.slice (some ⟨g, 0, none⟩) fs.length fc) := hb_at h2 1 rfl
            obtain ⟨g', eg, _, hcell⟩ := row_at (cs := RF.cells) (fun _ => rfl) HR2.out.files HF.out
            obtain rfl : g = g' := by simpa using eg
            have d2 : wq.cell? ⟨g, i * 2, none⟩ = some (.string was) := hcell 0 _ rfl
            have f3 : wq.frozen? ⟨g, i * 2, none⟩ = false := HR2.out.files.frozenAt _
            clear hcell h2 eg
            go_wp2
            go_ret
            obtain ⟨hr3, hf3⟩ := HR2.out.refile (t := now) (y := ⟨now, f.lasts⟩) HF.out (j := 0) (by omega) rfl ⟨hnow, HSM.out.2⟩
            exact ⟨⟨_, rfl⟩, ⟨_, _, _, _, _, _, _, _, _, hr3.up (k' := k + 2) (by omega)⟩, HF2.out.trans hf3⟩
end
end Go.Proofs.Ytmfphnhdahaooaa
