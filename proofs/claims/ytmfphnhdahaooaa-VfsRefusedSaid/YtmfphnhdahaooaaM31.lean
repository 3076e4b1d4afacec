/- The texts Ku, one behind the other. -/
import Derived.Test.YtmfphnhdahaooaaM24
import Derived.Test.YtmfphnhdahaooaaM27
import Derived.Outline
set_option linter.unusedSimpArgs false
set_option linter.unusedVariables false
/- The law's own functions: are calls gone through? -/
namespace Go.Proofs.Ytmfphnhdahaooaa
open Go.RowKit Go.Maps
set_option linter.unusedSimpArgs false
set_option linter.unusedVariables false
/-- A call of the law's. -/
structure Ac where
  kind : Int
  name : ByteArray
  dst : ByteArray
  at_ : Int
  n : Int
  by_ : Int
  tao : Option Addr
  zs : List Int
  tc : Nat
  fo : Option Addr
  fl : List Sv
  fc : Nat
def RowF (w : World) (fo : Option Addr) (fl : List Sv) : Prop := ∀ i x, fl[i]? = some x → x.name.size ≤ maxLen ∧ RowI w x.ao x.zs ∧ x.zs.length ≤ manyZ ∧
  ∃ b off, fo = some ⟨b, off, none⟩ ∧ w.cell? ⟨b, off + i * 3, none⟩ = some (.string x.name) ∧ w.cell? ⟨b, off + i * 3 + 1, none⟩ = some (.slice x.ao x.zs.length x.c) ∧ w.cell? ⟨b, off + i * 3 + 2, none⟩ = some (.bool x.long)
/-- A slice of calls, read. -/
def NumOk (n : Int) : Prop := -9223372036854775808 ≤ n ∧ n ≤ 9223372036854775807
def RowAc (w : World) (ao : Option Addr) (l : List Ac) : Prop := ∀ i a, l[i]? = some a → (NumOk a.at_ ∧ NumOk a.n) ∧ a.name.size ≤ maxLen ∧ a.dst.size ≤ maxLen ∧ RowI w a.tao a.zs ∧ a.zs.length ≤ maxLen ∧ RowF w a.fo a.fl ∧ a.fl.length ≤ maxLen ∧
  ∃ b off, ao = some ⟨b, off, none⟩ ∧ w.cell? ⟨b, off + i * 8, none⟩ = some (.int .i64 a.kind) ∧ w.cell? ⟨b, off + i * 8 + 1, none⟩ = some (.string a.name) ∧ w.cell? ⟨b, off + i * 8 + 2, none⟩ = some (.string a.dst) ∧
    w.cell? ⟨b, off + i * 8 + 3, none⟩ = some (.int .i64 a.at_) ∧ w.cell? ⟨b, off + i * 8 + 4, none⟩ = some (.int .i64 a.n) ∧ w.cell? ⟨b, off + i * 8 + 5, none⟩ = some (.int .u8 a.by_) ∧
    w.cell? ⟨b, off + i * 8 + 6, none⟩ = some (.slice a.tao a.zs.length a.tc) ∧ w.cell? ⟨b, off + i * 8 + 7, none⟩ = some (.slice a.fo a.fl.length a.fc)
theorem cell_over {w w' : World} {p : Addr} {v : Value} (h : w.cell? p = some v) (hb : Below w.heap.size w w') : w'.cell? p = some v := (hb.cell (World.block_lt_of_cell? _ _ h)).trans h
theorem RowF.below {w w' : World} {fo : Option Addr} {fl : List Sv} (h : RowF w fo fl) (hb : Below w.heap.size w w') : RowF w' fo fl := by
  intro i x hx
  obtain ⟨h1, h2, h3, b, off, e, c0, c1, c2⟩ := h i x hx
  exact ⟨h1, h2.below hb (Nat.le_refl _), h3, b, off, e, cell_over c0 hb, cell_over c1 hb, cell_over c2 hb⟩
theorem RowAc.below {w w' : World} {ao : Option Addr} {l : List Ac} (h : RowAc w ao l) (hb : Below w.heap.size w w') : RowAc w' ao l := by
  intro i a ha
  obtain ⟨h0, h1, h2, h3, h4, h5, h6, b, off, e, c0, c1, c2, c3, c4, c5, c6, c7⟩ := h i a ha
  exact ⟨h0, h1, h2, h3.below hb (Nat.le_refl _), h4, h5.below hb, h6, b, off, e, cell_over c0 hb, cell_over c1 hb, cell_over c2 hb, cell_over c3 hb, cell_over c4 hb, cell_over c5 hb, cell_over c6 hb, cell_over c7 hb⟩
/-- What a sum bounds of the calls ahead of a place. -/
def FewUp (l : List Ac) (q : Nat) (M : Int) : Prop := ∀ j a, j < q → l[j]? = some a → min (a.zs.length : Int) 10000 ≤ M ∧ 20 * min (a.fl.length : Int) 1000 ≤ M ∧ ∀ k x, k < 31 → a.fl[k]? = some x → min (x.zs.length : Int) 10000 ≤ M
def FewOk (l : List Ac) : Prop := l.length ≤ 60 ∧ ∀ a ∈ l, a.zs.length ≤ 6000 ∧ a.fl.length ≤ 300 ∧ ∀ k x, k < 31 → a.fl[k]? = some x → x.zs.length ≤ 6000
def FewIn (fl : List Sv) (kq : Nat) (M : Int) : Prop := ∀ k x, k < kq → fl[k]? = some x → min (x.zs.length : Int) 10000 ≤ M
theorem few_in {fl : List Sv} {kq : Nat} {M M' : Int} {x : Sv} (h : FewIn fl kq M) (hx : fl[kq]? = some x) (hm : M ≤ M') (hz : min (x.zs.length : Int) 10000 ≤ M') : FewIn fl (kq + 1) M' := by
  intro k y hk hy
  by_cases e : k < kq
  · have := h k y e hy; omega
  · obtain rfl : k = kq := by omega
    rw [hx] at hy
    obtain rfl := Option.some.inj hy
    exact hz
def M1P (a : Ac) (M M1 : Int) : Prop := M ≤ M1 ∧ M1 ≤ M + 50000 ∧ min (a.zs.length : Int) 10000 ≤ M1 ∧ 20 * min (a.fl.length : Int) 1000 ≤ M1
def FewP (l : List Ac) (e : Ending) : Prop := ∃ b : Bool, e = .returned (.bool b) ∧ (b = true → FewOk l)
theorem few_step {l : List Ac} {q kq : Nat} {a : Ac} {M M1 M2 : Int} (h : FewUp l q M) (ha : l[q]? = some a) (h1 : M1P a M M1) (h2 : FewIn a.fl kq M2) (h3 : M1 ≤ M2) (hk : kq = a.fl.length ∨ kq = 31) : FewUp l (q + 1) M2 := by
  obtain ⟨m1, m2, m3, m4⟩ := h1
  intro j b hj hb
  by_cases e : j < q
  · obtain ⟨x1, x2, x3⟩ := h j b e hb
    exact ⟨by omega, by omega, fun k x hk hx => by have := x3 k x hk hx; omega⟩
  · obtain rfl : j = q := by omega
    rw [ha] at hb
    obtain rfl := Option.some.inj hb
    refine ⟨by omega, by omega, fun k x hk2 hx => ?_⟩
    have hl := (List.getElem?_eq_some_iff.1 hx).1
    exact h2 k x (by omega) hx
theorem few_ok {l : List Ac} {q : Nat} {M : Int} (h : FewUp l q M) (hq : q = l.length) (hl : l.length ≤ 60) (hM : M ≤ 6000) : FewOk l := by
  refine ⟨hl, fun a ha => ?_⟩
  obtain ⟨i, hi⟩ := List.getElem?_of_mem ha
  have hl := (List.getElem?_eq_some_iff.1 hi).1
  obtain ⟨x1, x2, x3⟩ := h i a (by omega) hi
  exact ⟨by omega, by omega, fun k x hk hx => by have := x3 k x hk hx; omega⟩
set_option maxRecDepth 100000 in
set_option maxHeartbeats 4000000 in
theorem few_any {w : World} {ao : Option Addr} {l : List Ac} {c : Nat} (h : RowAc w ao l) (hl : l.length ≤ maxLen) :
    Calls Try.prog 13 #[.slice ao l.length c] w fun e w' => FewP l e ∧ Below w.heap.size w w' := by
  unfold maxLen at hl
  have H := Lib.hid h
  obtain ⟨len, hlen⟩ : ∃ n, n = l.length := ⟨_, rfl⟩
  have HLEN := Lib.hid hlen
  rw [← hlen] at hl ⊢
  clear h hlen
  go_enter Try.func13, Try.ntmps13
  go_upto_region 3 with fail
  go_loopw [3, 4] (fun n i wr => ∃ (M : Int) (q : Nat), n = .int .i64 M ∧ i = .int .i64 q ∧ q ≤ 61 ∧ q ≤ len ∧ 0 ≤ M ∧ M ≤ 700000 * q ∧ RowKit.Hid (FewUp l q M) ∧ RowKit.Hid (Below w.heap.size w wr)) (fun _ i _ => len - (intOf i).toNat)
  case atStart => exact ⟨0, 0, rfl, rfl, by omega, Nat.zero_le _, by omega, by omega, Lib.hid (fun j a hj => by omega), Lib.hid (Below.refl _ _)⟩
  case round =>
    obtain ⟨M, q, rfl, rfl, hq61, hq, hM0, hM1, HUP, HB⟩ := hrel
    by_cases hlt : q < len
    · by_cases hq60 : q ≤ 60
      · obtain ⟨a, ha⟩ : ∃ a, l[q]? = some a := ⟨_, List.getElem?_eq_getElem (by rw [← HLEN.out]; exact hlt)⟩
        obtain ⟨_, hn1, hn2, hI, hz, hF, hfl, b, off, rfl, c0, c1, c2, c3, c4, c5, c6, c7⟩ := H.out.below HB.out q a ha
        unfold maxLen at hn1 hn2 hz hfl
        have HA := Lib.hid ha
        have HF := Lib.hid hF
        clear ha hI hF c0 c3 c4 c5
        go_upto_region 5 with fail
        generalize decide ((q : Int) ≤ 60) = bq at *
        have HQ60 := Lib.hid hq60
        clear hq60
        refine Inv.regionP (by kernel_rfl) ?_
        refine Inv.start0 ?_ (by kernel_rfl)
        refine Inv.regionT [0, 1, 2, 3, 4, 5, 6, 7, 8, 9, 10, 11, 12, 13, 14, 15, 16, 17, 18, 19, 20, 21, 22, 23, 24, 25, 26, 27, 28, 29, 30, 31, 32, 33] [] 34 [] [some 16, some 17, some 18, some 19, some 20, some 21, some 22, some 23, some 24, some 25, some 26, some 27, some 28, some 29, some 30, some 31, some 32, some 33, some 34, some 35, some 36, some 37, some 38, some 39, some 40, some 41, some 42, some 43, some 44, some 45, some 46, some 47, some 48, some 49, some 3] [[], [], [], [1, 2], [3], [4], [5], [6], [0, 7], [], [], [9, 10], [11], [12], [13], [14], [15], [8, 16], [], [], [18, 19], [20], [21], [22], [23], [17, 24], [], [], [26, 27], [28], [29], [30], [31], [25, 32]] (by kernel_rfl) (by kernel_rfl) (by kernel_rfl) (by kernel_rfl) (by kernel_rfl) [Inv.MP.is (.int .i64 M), Inv.MP.is (.slice (some ⟨b, off, none⟩) len c), Inv.MP.is (.int .i64 (q : Nat)), Inv.MP.is (.pointer (some ⟨b, off + q * 8, none⟩)), Inv.MP.is (.pointer (some ⟨b, off + q * 8 + 6, none⟩)), Inv.MP.is (.slice a.tao a.zs.length a.tc), Inv.MP.is (.int .i64 (a.zs.length : Nat)), Inv.MP.is (.int .i64 (min (a.zs.length : Int) 10000)), Inv.MP.is (.int .i64 (M + min (a.zs.length : Int) 10000)), Inv.MP.is (.slice (some ⟨b, off, none⟩) len c), Inv.MP.is (.int .i64 (q : Nat)), Inv.MP.is (.pointer (some ⟨b, off + q * 8, none⟩)), Inv.MP.is (.pointer (some ⟨b, off + q * 8 + 7, none⟩)), Inv.MP.is (.slice a.fo a.fl.length a.fc), Inv.MP.is (.int .i64 (a.fl.length : Nat)), Inv.MP.is (.int .i64 (min (a.fl.length : Int) 1000)), Inv.MP.is (.int .i64 (20 * min (a.fl.length : Int) 1000)), Inv.MP.is (.int .i64 (M + min (a.zs.length : Int) 10000 + 20 * min (a.fl.length : Int) 1000)), Inv.MP.is (.slice (some ⟨b, off, none⟩) len c), Inv.MP.is (.int .i64 (q : Nat)), Inv.MP.is (.pointer (some ⟨b, off + q * 8, none⟩)), Inv.MP.is (.pointer (some ⟨b, off + q * 8 + 1, none⟩)), Inv.MP.is (.string a.name), Inv.MP.is (.int .i64 (a.name.size : Nat)), Inv.MP.is (.int .i64 (min (a.name.size : Int) 10000)), Inv.MP.is (.int .i64 (M + min (a.zs.length : Int) 10000 + 20 * min (a.fl.length : Int) 1000 + min (a.name.size : Int) 10000)), Inv.MP.is (.slice (some ⟨b, off, none⟩) len c), Inv.MP.is (.int .i64 (q : Nat)), Inv.MP.is (.pointer (some ⟨b, off + q * 8, none⟩)), Inv.MP.is (.pointer (some ⟨b, off + q * 8 + 2, none⟩)), Inv.MP.is (.string a.dst), Inv.MP.is (.int .i64 (a.dst.size : Nat)), Inv.MP.is (.int .i64 (min (a.dst.size : Int) 10000)), Inv.MP.is (.int .i64 (M + min (a.zs.length : Int) 10000 + 20 * min (a.fl.length : Int) 1000 + min (a.name.size : Int) 10000 + min (a.dst.size : Int) 10000))] [] (by intro x hx; cases hx) _ (by kernel_rfl) ⟨?_, ?_, ?_, ?_, ?_, ?_, ?_, ?_, ?_, ?_, ?_, ?_, ?_, ?_, ?_, ?_, ?_, ?_, ?_, ?_, ?_, ?_, ?_, ?_, ?_, ?_, ?_, ?_, ?_, ?_, ?_, ?_, ?_, ?_, trivial⟩ (fun vs wq hbq hv htie => ?_)
        · intro vs w' hb hv K hK
          clear hv
          have hK2 := hK.out
          clear hK
          simp only [Inv.putD, Inv.dst, List.foldl_cons, List.foldl_nil, List.getD_cons_zero, List.getD_cons_succ, Act.put, List.setIfInBounds_toArray, List.set_cons_zero, List.set_cons_succ, List.filterMap_cons, List.filterMap_nil, List.getElem?_toArray, List.getElem?_cons_zero, List.getElem?_cons_succ, List.getElem_toArray, List.getElem_cons_zero, List.getElem_cons_succ] at hK2 ⊢
          have hK := Lib.hid hK2
          clear hK2
          simp only [Region.wanted, Inv.yieldedD, Inv.dst, List.getD_cons_zero, List.getD_cons_succ]
          go_simp
          refine hK.out _ _ (Eq.refl _) (Below.refl _ _) (Inv.noTies _ _ _ _ _)
        · intro vs w' hb hv K hK
          clear hv
          have hK2 := hK.out
          clear hK
          simp only [Inv.putD, Inv.dst, List.foldl_cons, List.foldl_nil, List.getD_cons_zero, List.getD_cons_succ, Act.put, List.setIfInBounds_toArray, List.set_cons_zero, List.set_cons_succ, List.filterMap_cons, List.filterMap_nil, List.getElem?_toArray, List.getElem?_cons_zero, List.getElem?_cons_succ, List.getElem_toArray, List.getElem_cons_zero, List.getElem_cons_succ] at hK2 ⊢
          have hK := Lib.hid hK2
          clear hK2
          simp only [Region.wanted, Inv.yieldedD, Inv.dst, List.getD_cons_zero, List.getD_cons_succ]
          go_simp
          refine hK.out _ _ (Eq.refl _) (Below.refl _ _) (Inv.noTies _ _ _ _ _)
        · intro vs w' hb hv K hK
          clear hv
          have hK2 := hK.out
          clear hK
          simp only [Inv.putD, Inv.dst, List.foldl_cons, List.foldl_nil, List.getD_cons_zero, List.getD_cons_succ, Act.put, List.setIfInBounds_toArray, List.set_cons_zero, List.set_cons_succ, List.filterMap_cons, List.filterMap_nil, List.getElem?_toArray, List.getElem?_cons_zero, List.getElem?_cons_succ, List.getElem_toArray, List.getElem_cons_zero, List.getElem_cons_succ] at hK2 ⊢
          have hK := Lib.hid hK2
          clear hK2
          simp only [Region.wanted, Inv.yieldedD, Inv.dst, List.getD_cons_zero, List.getD_cons_succ]
          go_simp
          refine hK.out _ _ (Eq.refl _) (Below.refl _ _) (Inv.noTies _ _ _ _ _)
        · intro vs w' hb hv K hK
          have h1 : (Inv.MP.is (.slice (some ⟨b, off, none⟩) len c)).p (vs 1) w' := hv 1 (by simp)
          have h2 : (Inv.MP.is (.int .i64 (q : Nat))).p (vs 2) w' := hv 2 (by simp)
          clear hv
          have hK2 := hK.out
          clear hK
          simp only [Inv.putD, Inv.dst, List.foldl_cons, List.foldl_nil, List.getD_cons_zero, List.getD_cons_succ, Act.put, List.setIfInBounds_toArray, List.set_cons_zero, List.set_cons_succ, List.filterMap_cons, List.filterMap_nil, List.getElem?_toArray, List.getElem?_cons_zero, List.getElem?_cons_succ, List.getElem_toArray, List.getElem_cons_zero, List.getElem_cons_succ] at hK2 ⊢
          have hK := Lib.hid hK2
          clear hK2
          generalize vs 1 = y1 at *
          generalize vs 2 = y2 at *
          have h1 : y1 = _ := h1
          subst h1
          have h2 : y2 = _ := h2
          subst h2
          simp only [Region.wanted, Inv.yieldedD, Inv.dst, List.getD_cons_zero, List.getD_cons_succ]
          go_simp
          refine hK.out _ _ (Eq.refl _) (Below.refl _ _) (Inv.noTies _ _ _ _ _)
        · intro vs w' hb hv K hK
          have h3 : (Inv.MP.is (.pointer (some ⟨b, off + q * 8, none⟩))).p (vs 3) w' := hv 3 (by simp)
          clear hv
          have hK2 := hK.out
          clear hK
          simp only [Inv.putD, Inv.dst, List.foldl_cons, List.foldl_nil, List.getD_cons_zero, List.getD_cons_succ, Act.put, List.setIfInBounds_toArray, List.set_cons_zero, List.set_cons_succ, List.filterMap_cons, List.filterMap_nil, List.getElem?_toArray, List.getElem?_cons_zero, List.getElem?_cons_succ, List.getElem_toArray, List.getElem_cons_zero, List.getElem_cons_succ] at hK2 ⊢
          have hK := Lib.hid hK2
          clear hK2
          generalize vs 3 = y3 at *
          have h3 : y3 = _ := h3
          subst h3
          simp only [Region.wanted, Inv.yieldedD, Inv.dst, List.getD_cons_zero, List.getD_cons_succ]
          go_simp
          refine hK.out _ _ (Eq.refl _) (Below.refl _ _) (Inv.noTies _ _ _ _ _)
        · intro vs w' hb hv K hK
          have h4 : (Inv.MP.is (.pointer (some ⟨b, off + q * 8 + 6, none⟩))).p (vs 4) w' := hv 4 (by simp)
          clear hv
          have hK2 := hK.out
          clear hK
          simp only [Inv.putD, Inv.dst, List.foldl_cons, List.foldl_nil, List.getD_cons_zero, List.getD_cons_succ, Act.put, List.setIfInBounds_toArray, List.set_cons_zero, List.set_cons_succ, List.filterMap_cons, List.filterMap_nil, List.getElem?_toArray, List.getElem?_cons_zero, List.getElem?_cons_succ, List.getElem_toArray, List.getElem_cons_zero, List.getElem_cons_succ] at hK2 ⊢
          have hK := Lib.hid hK2
          clear hK2
          generalize vs 4 = y4 at *
          have h4 : y4 = _ := h4
          subst h4
          have c6b := (hb.cell (p := ⟨b, off + q * 8 + 6, none⟩) (World.block_lt_of_cell? _ _ c6)).trans c6
          simp only [Region.wanted, Inv.yieldedD, Inv.dst, List.getD_cons_zero, List.getD_cons_succ]
          go_simp
          refine hK.out _ _ (Eq.refl _) (Below.refl _ _) (Inv.noTies _ _ _ _ _)
        · intro vs w' hb hv K hK
          have h5 : (Inv.MP.is (.slice a.tao a.zs.length a.tc)).p (vs 5) w' := hv 5 (by simp)
          clear hv
          have hK2 := hK.out
          clear hK
          simp only [Inv.putD, Inv.dst, List.foldl_cons, List.foldl_nil, List.getD_cons_zero, List.getD_cons_succ, Act.put, List.setIfInBounds_toArray, List.set_cons_zero, List.set_cons_succ, List.filterMap_cons, List.filterMap_nil, List.getElem?_toArray, List.getElem?_cons_zero, List.getElem?_cons_succ, List.getElem_toArray, List.getElem_cons_zero, List.getElem_cons_succ] at hK2 ⊢
          have hK := Lib.hid hK2
          clear hK2
          generalize vs 5 = y5 at *
          have h5 : y5 = _ := h5
          subst h5
          simp only [Region.wanted, Inv.yieldedD, Inv.dst, List.getD_cons_zero, List.getD_cons_succ]
          go_simp
          refine hK.out _ _ (Eq.refl _) (Below.refl _ _) (Inv.noTies _ _ _ _ _)
        · intro vs w' hb hv K hK
          have h6 : (Inv.MP.is (.int .i64 (a.zs.length : Nat))).p (vs 6) w' := hv 6 (by simp)
          clear hv
          have hK2 := hK.out
          clear hK
          simp only [Inv.putD, Inv.dst, List.foldl_cons, List.foldl_nil, List.getD_cons_zero, List.getD_cons_succ, Act.put, List.setIfInBounds_toArray, List.set_cons_zero, List.set_cons_succ, List.filterMap_cons, List.filterMap_nil, List.getElem?_toArray, List.getElem?_cons_zero, List.getElem?_cons_succ, List.getElem_toArray, List.getElem_cons_zero, List.getElem_cons_succ] at hK2 ⊢
          have hK := Lib.hid hK2
          clear hK2
          generalize vs 6 = y6 at *
          have h6 : y6 = _ := h6
          subst h6
          simp only [Region.wanted, Inv.yieldedD, Inv.dst, List.getD_cons_zero, List.getD_cons_succ]
          go_simp
          refine hK.out _ _ (Eq.refl _) (Below.refl _ _) (Inv.noTies _ _ _ _ _)
        · intro vs w' hb hv K hK
          have h0 : (Inv.MP.is (.int .i64 M)).p (vs 0) w' := hv 0 (by simp)
          have h7 : (Inv.MP.is (.int .i64 (min (a.zs.length : Int) 10000))).p (vs 7) w' := hv 7 (by simp)
          clear hv
          have hK2 := hK.out
          clear hK
          simp only [Inv.putD, Inv.dst, List.foldl_cons, List.foldl_nil, List.getD_cons_zero, List.getD_cons_succ, Act.put, List.setIfInBounds_toArray, List.set_cons_zero, List.set_cons_succ, List.filterMap_cons, List.filterMap_nil, List.getElem?_toArray, List.getElem?_cons_zero, List.getElem?_cons_succ, List.getElem_toArray, List.getElem_cons_zero, List.getElem_cons_succ] at hK2 ⊢
          have hK := Lib.hid hK2
          clear hK2
          generalize vs 0 = y0 at *
          generalize vs 7 = y7 at *
          have h0 : y0 = _ := h0
          subst h0
          have h7 : y7 = _ := h7
          subst h7
          have wv : IntKind.i64.wrap (M + min (a.zs.length : Int) 10000) = M + min (a.zs.length : Int) 10000 := IntWalk.i64_in _ (by omega)
          simp only [Region.wanted, Inv.yieldedD, Inv.dst, List.getD_cons_zero, List.getD_cons_succ]
          go_simp
          refine hK.out _ _ (Eq.refl _) (Below.refl _ _) (Inv.noTies _ _ _ _ _)
        · intro vs w' hb hv K hK
          clear hv
          have hK2 := hK.out
          clear hK
          simp only [Inv.putD, Inv.dst, List.foldl_cons, List.foldl_nil, List.getD_cons_zero, List.getD_cons_succ, Act.put, List.setIfInBounds_toArray, List.set_cons_zero, List.set_cons_succ, List.filterMap_cons, List.filterMap_nil, List.getElem?_toArray, List.getElem?_cons_zero, List.getElem?_cons_succ, List.getElem_toArray, List.getElem_cons_zero, List.getElem_cons_succ] at hK2 ⊢
          have hK := Lib.hid hK2
          clear hK2
          simp only [Region.wanted, Inv.yieldedD, Inv.dst, List.getD_cons_zero, List.getD_cons_succ]
          go_simp
          refine hK.out _ _ (Eq.refl _) (Below.refl _ _) (Inv.noTies _ _ _ _ _)
        · intro vs w' hb hv K hK
          clear hv
          have hK2 := hK.out
          clear hK
          simp only [Inv.putD, Inv.dst, List.foldl_cons, List.foldl_nil, List.getD_cons_zero, List.getD_cons_succ, Act.put, List.setIfInBounds_toArray, List.set_cons_zero, List.set_cons_succ, List.filterMap_cons, List.filterMap_nil, List.getElem?_toArray, List.getElem?_cons_zero, List.getElem?_cons_succ, List.getElem_toArray, List.getElem_cons_zero, List.getElem_cons_succ] at hK2 ⊢
          have hK := Lib.hid hK2
          clear hK2
          simp only [Region.wanted, Inv.yieldedD, Inv.dst, List.getD_cons_zero, List.getD_cons_succ]
          go_simp
          refine hK.out _ _ (Eq.refl _) (Below.refl _ _) (Inv.noTies _ _ _ _ _)
        · intro vs w' hb hv K hK
          have h9 : (Inv.MP.is (.slice (some ⟨b, off, none⟩) len c)).p (vs 9) w' := hv 9 (by simp)
          have h10 : (Inv.MP.is (.int .i64 (q : Nat))).p (vs 10) w' := hv 10 (by simp)
          clear hv
          have hK2 := hK.out
          clear hK
          simp only [Inv.putD, Inv.dst, List.foldl_cons, List.foldl_nil, List.getD_cons_zero, List.getD_cons_succ, Act.put, List.setIfInBounds_toArray, List.set_cons_zero, List.set_cons_succ, List.filterMap_cons, List.filterMap_nil, List.getElem?_toArray, List.getElem?_cons_zero, List.getElem?_cons_succ, List.getElem_toArray, List.getElem_cons_zero, List.getElem_cons_succ] at hK2 ⊢
          have hK := Lib.hid hK2
          clear hK2
          generalize vs 9 = y9 at *
          generalize vs 10 = y10 at *
          have h9 : y9 = _ := h9
          subst h9
          have h10 : y10 = _ := h10
          subst h10
          simp only [Region.wanted, Inv.yieldedD, Inv.dst, List.getD_cons_zero, List.getD_cons_succ]
          go_simp
          refine hK.out _ _ (Eq.refl _) (Below.refl _ _) (Inv.noTies _ _ _ _ _)
        · intro vs w' hb hv K hK
          have h11 : (Inv.MP.is (.pointer (some ⟨b, off + q * 8, none⟩))).p (vs 11) w' := hv 11 (by simp)
          clear hv
          have hK2 := hK.out
          clear hK
          simp only [Inv.putD, Inv.dst, List.foldl_cons, List.foldl_nil, List.getD_cons_zero, List.getD_cons_succ, Act.put, List.setIfInBounds_toArray, List.set_cons_zero, List.set_cons_succ, List.filterMap_cons, List.filterMap_nil, List.getElem?_toArray, List.getElem?_cons_zero, List.getElem?_cons_succ, List.getElem_toArray, List.getElem_cons_zero, List.getElem_cons_succ] at hK2 ⊢
          have hK := Lib.hid hK2
          clear hK2
          generalize vs 11 = y11 at *
          have h11 : y11 = _ := h11
          subst h11
          simp only [Region.wanted, Inv.yieldedD, Inv.dst, List.getD_cons_zero, List.getD_cons_succ]
          go_simp
          refine hK.out _ _ (Eq.refl _) (Below.refl _ _) (Inv.noTies _ _ _ _ _)
        · intro vs w' hb hv K hK
          have h12 : (Inv.MP.is (.pointer (some ⟨b, off + q * 8 + 7, none⟩))).p (vs 12) w' := hv 12 (by simp)
          clear hv
          have hK2 := hK.out
          clear hK
          simp only [Inv.putD, Inv.dst, List.foldl_cons, List.foldl_nil, List.getD_cons_zero, List.getD_cons_succ, Act.put, List.setIfInBounds_toArray, List.set_cons_zero, List.set_cons_succ, List.filterMap_cons, List.filterMap_nil, List.getElem?_toArray, List.getElem?_cons_zero, List.getElem?_cons_succ, List.getElem_toArray, List.getElem_cons_zero, List.getElem_cons_succ] at hK2 ⊢
          have hK := Lib.hid hK2
          clear hK2
          generalize vs 12 = y12 at *
          have h12 : y12 = _ := h12
          subst h12
          have c7b := (hb.cell (p := ⟨b, off + q * 8 + 7, none⟩) (World.block_lt_of_cell? _ _ c7)).trans c7
          simp only [Region.wanted, Inv.yieldedD, Inv.dst, List.getD_cons_zero, List.getD_cons_succ]
          go_simp
          refine hK.out _ _ (Eq.refl _) (Below.refl _ _) (Inv.noTies _ _ _ _ _)
        · intro vs w' hb hv K hK
          have h13 : (Inv.MP.is (.slice a.fo a.fl.length a.fc)).p (vs 13) w' := hv 13 (by simp)
          clear hv
          have hK2 := hK.out
          clear hK
          simp only [Inv.putD, Inv.dst, List.foldl_cons, List.foldl_nil, List.getD_cons_zero, List.getD_cons_succ, Act.put, List.setIfInBounds_toArray, List.set_cons_zero, List.set_cons_succ, List.filterMap_cons, List.filterMap_nil, List.getElem?_toArray, List.getElem?_cons_zero, List.getElem?_cons_succ, List.getElem_toArray, List.getElem_cons_zero, List.getElem_cons_succ] at hK2 ⊢
          have hK := Lib.hid hK2
          clear hK2
          generalize vs 13 = y13 at *
          have h13 : y13 = _ := h13
          subst h13
          simp only [Region.wanted, Inv.yieldedD, Inv.dst, List.getD_cons_zero, List.getD_cons_succ]
          go_simp
          refine hK.out _ _ (Eq.refl _) (Below.refl _ _) (Inv.noTies _ _ _ _ _)
        · intro vs w' hb hv K hK
          have h14 : (Inv.MP.is (.int .i64 (a.fl.length : Nat))).p (vs 14) w' := hv 14 (by simp)
          clear hv
          have hK2 := hK.out
          clear hK
          simp only [Inv.putD, Inv.dst, List.foldl_cons, List.foldl_nil, List.getD_cons_zero, List.getD_cons_succ, Act.put, List.setIfInBounds_toArray, List.set_cons_zero, List.set_cons_succ, List.filterMap_cons, List.filterMap_nil, List.getElem?_toArray, List.getElem?_cons_zero, List.getElem?_cons_succ, List.getElem_toArray, List.getElem_cons_zero, List.getElem_cons_succ] at hK2 ⊢
          have hK := Lib.hid hK2
          clear hK2
          generalize vs 14 = y14 at *
          have h14 : y14 = _ := h14
          subst h14
          simp only [Region.wanted, Inv.yieldedD, Inv.dst, List.getD_cons_zero, List.getD_cons_succ]
          go_simp
          refine hK.out _ _ (Eq.refl _) (Below.refl _ _) (Inv.noTies _ _ _ _ _)
        · intro vs w' hb hv K hK
          have h15 : (Inv.MP.is (.int .i64 (min (a.fl.length : Int) 1000))).p (vs 15) w' := hv 15 (by simp)
          clear hv
          have hK2 := hK.out
          clear hK
          simp only [Inv.putD, Inv.dst, List.foldl_cons, List.foldl_nil, List.getD_cons_zero, List.getD_cons_succ, Act.put, List.setIfInBounds_toArray, List.set_cons_zero, List.set_cons_succ, List.filterMap_cons, List.filterMap_nil, List.getElem?_toArray, List.getElem?_cons_zero, List.getElem?_cons_succ, List.getElem_toArray, List.getElem_cons_zero, List.getElem_cons_succ] at hK2 ⊢
          have hK := Lib.hid hK2
          clear hK2
          generalize vs 15 = y15 at *
          have h15 : y15 = _ := h15
          subst h15
          have wv : IntKind.i64.wrap (20 * min (a.fl.length : Int) 1000) = 20 * min (a.fl.length : Int) 1000 := IntWalk.i64_in _ (by omega)
          simp only [Region.wanted, Inv.yieldedD, Inv.dst, List.getD_cons_zero, List.getD_cons_succ]
          go_simp
          refine hK.out _ _ (Eq.refl _) (Below.refl _ _) (Inv.noTies _ _ _ _ _)
        · intro vs w' hb hv K hK
          have h8 : (Inv.MP.is (.int .i64 (M + min (a.zs.length : Int) 10000))).p (vs 8) w' := hv 8 (by simp)
          have h16 : (Inv.MP.is (.int .i64 (20 * min (a.fl.length : Int) 1000))).p (vs 16) w' := hv 16 (by simp)
          clear hv
          have hK2 := hK.out
          clear hK
          simp only [Inv.putD, Inv.dst, List.foldl_cons, List.foldl_nil, List.getD_cons_zero, List.getD_cons_succ, Act.put, List.setIfInBounds_toArray, List.set_cons_zero, List.set_cons_succ, List.filterMap_cons, List.filterMap_nil, List.getElem?_toArray, List.getElem?_cons_zero, List.getElem?_cons_succ, List.getElem_toArray, List.getElem_cons_zero, List.getElem_cons_succ] at hK2 ⊢
          have hK := Lib.hid hK2
          clear hK2
          generalize vs 8 = y8 at *
          generalize vs 16 = y16 at *
          have h8 : y8 = _ := h8
          subst h8
          have h16 : y16 = _ := h16
          subst h16
          have wv : IntKind.i64.wrap (M + min (a.zs.length : Int) 10000 + 20 * min (a.fl.length : Int) 1000) = M + min (a.zs.length : Int) 10000 + 20 * min (a.fl.length : Int) 1000 := IntWalk.i64_in _ (by omega)
          simp only [Region.wanted, Inv.yieldedD, Inv.dst, List.getD_cons_zero, List.getD_cons_succ]
          go_simp
          refine hK.out _ _ (Eq.refl _) (Below.refl _ _) (Inv.noTies _ _ _ _ _)
        · intro vs w' hb hv K hK
          clear hv
          have hK2 := hK.out
          clear hK
          simp only [Inv.putD, Inv.dst, List.foldl_cons, List.foldl_nil, List.getD_cons_zero, List.getD_cons_succ, Act.put, List.setIfInBounds_toArray, List.set_cons_zero, List.set_cons_succ, List.filterMap_cons, List.filterMap_nil, List.getElem?_toArray, List.getElem?_cons_zero, List.getElem?_cons_succ, List.getElem_toArray, List.getElem_cons_zero, List.getElem_cons_succ] at hK2 ⊢
          have hK := Lib.hid hK2
          clear hK2
          simp only [Region.wanted, Inv.yieldedD, Inv.dst, List.getD_cons_zero, List.getD_cons_succ]
          go_simp
          refine hK.out _ _ (Eq.refl _) (Below.refl _ _) (Inv.noTies _ _ _ _ _)
        · intro vs w' hb hv K hK
          clear hv
          have hK2 := hK.out
          clear hK
          simp only [Inv.putD, Inv.dst, List.foldl_cons, List.foldl_nil, List.getD_cons_zero, List.getD_cons_succ, Act.put, List.setIfInBounds_toArray, List.set_cons_zero, List.set_cons_succ, List.filterMap_cons, List.filterMap_nil, List.getElem?_toArray, List.getElem?_cons_zero, List.getElem?_cons_succ, List.getElem_toArray, List.getElem_cons_zero, List.getElem_cons_succ] at hK2 ⊢
          have hK := Lib.hid hK2
          clear hK2
          simp only [Region.wanted, Inv.yieldedD, Inv.dst, List.getD_cons_zero, List.getD_cons_succ]
          go_simp
          refine hK.out _ _ (Eq.refl _) (Below.refl _ _) (Inv.noTies _ _ _ _ _)
        · intro vs w' hb hv K hK
          have h18 : (Inv.MP.is (.slice (some ⟨b, off, none⟩) len c)).p (vs 18) w' := hv 18 (by simp)
          have h19 : (Inv.MP.is (.int .i64 (q : Nat))).p (vs 19) w' := hv 19 (by simp)
          clear hv
          have hK2 := hK.out
          clear hK
          simp only [Inv.putD, Inv.dst, List.foldl_cons, List.foldl_nil, List.getD_cons_zero, List.getD_cons_succ, Act.put, List.setIfInBounds_toArray, List.set_cons_zero, List.set_cons_succ, List.filterMap_cons, List.filterMap_nil, List.getElem?_toArray, List.getElem?_cons_zero, List.getElem?_cons_succ, List.getElem_toArray, List.getElem_cons_zero, List.getElem_cons_succ] at hK2 ⊢
          have hK := Lib.hid hK2
          clear hK2
          generalize vs 18 = y18 at *
          generalize vs 19 = y19 at *
          have h18 : y18 = _ := h18
          subst h18
          have h19 : y19 = _ := h19
          subst h19
          simp only [Region.wanted, Inv.yieldedD, Inv.dst, List.getD_cons_zero, List.getD_cons_succ]
          go_simp
          refine hK.out _ _ (Eq.refl _) (Below.refl _ _) (Inv.noTies _ _ _ _ _)
        · intro vs w' hb hv K hK
          have h20 : (Inv.MP.is (.pointer (some ⟨b, off + q * 8, none⟩))).p (vs 20) w' := hv 20 (by simp)
          clear hv
          have hK2 := hK.out
          clear hK
          simp only [Inv.putD, Inv.dst, List.foldl_cons, List.foldl_nil, List.getD_cons_zero, List.getD_cons_succ, Act.put, List.setIfInBounds_toArray, List.set_cons_zero, List.set_cons_succ, List.filterMap_cons, List.filterMap_nil, List.getElem?_toArray, List.getElem?_cons_zero, List.getElem?_cons_succ, List.getElem_toArray, List.getElem_cons_zero, List.getElem_cons_succ] at hK2 ⊢
          have hK := Lib.hid hK2
          clear hK2
          generalize vs 20 = y20 at *
          have h20 : y20 = _ := h20
          subst h20
          simp only [Region.wanted, Inv.yieldedD, Inv.dst, List.getD_cons_zero, List.getD_cons_succ]
          go_simp
          refine hK.out _ _ (Eq.refl _) (Below.refl _ _) (Inv.noTies _ _ _ _ _)
        · intro vs w' hb hv K hK
          have h21 : (Inv.MP.is (.pointer (some ⟨b, off + q * 8 + 1, none⟩))).p (vs 21) w' := hv 21 (by simp)
          clear hv
          have hK2 := hK.out
          clear hK
          simp only [Inv.putD, Inv.dst, List.foldl_cons, List.foldl_nil, List.getD_cons_zero, List.getD_cons_succ, Act.put, List.setIfInBounds_toArray, List.set_cons_zero, List.set_cons_succ, List.filterMap_cons, List.filterMap_nil, List.getElem?_toArray, List.getElem?_cons_zero, List.getElem?_cons_succ, List.getElem_toArray, List.getElem_cons_zero, List.getElem_cons_succ] at hK2 ⊢
          have hK := Lib.hid hK2
          clear hK2
          generalize vs 21 = y21 at *
          have h21 : y21 = _ := h21
          subst h21
          have c1b := (hb.cell (p := ⟨b, off + q * 8 + 1, none⟩) (World.block_lt_of_cell? _ _ c1)).trans c1
          simp only [Region.wanted, Inv.yieldedD, Inv.dst, List.getD_cons_zero, List.getD_cons_succ]
          go_simp
          refine hK.out _ _ (Eq.refl _) (Below.refl _ _) (Inv.noTies _ _ _ _ _)
        · intro vs w' hb hv K hK
          have h22 : (Inv.MP.is (.string a.name)).p (vs 22) w' := hv 22 (by simp)
          clear hv
          have hK2 := hK.out
          clear hK
          simp only [Inv.putD, Inv.dst, List.foldl_cons, List.foldl_nil, List.getD_cons_zero, List.getD_cons_succ, Act.put, List.setIfInBounds_toArray, List.set_cons_zero, List.set_cons_succ, List.filterMap_cons, List.filterMap_nil, List.getElem?_toArray, List.getElem?_cons_zero, List.getElem?_cons_succ, List.getElem_toArray, List.getElem_cons_zero, List.getElem_cons_succ] at hK2 ⊢
          have hK := Lib.hid hK2
          clear hK2
          generalize vs 22 = y22 at *
          have h22 : y22 = _ := h22
          subst h22
          simp only [Region.wanted, Inv.yieldedD, Inv.dst, List.getD_cons_zero, List.getD_cons_succ]
          go_simp
          refine hK.out _ _ (Eq.refl _) (Below.refl _ _) (Inv.noTies _ _ _ _ _)
        · intro vs w' hb hv K hK
          have h23 : (Inv.MP.is (.int .i64 (a.name.size : Nat))).p (vs 23) w' := hv 23 (by simp)
          clear hv
          have hK2 := hK.out
          clear hK
          simp only [Inv.putD, Inv.dst, List.foldl_cons, List.foldl_nil, List.getD_cons_zero, List.getD_cons_succ, Act.put, List.setIfInBounds_toArray, List.set_cons_zero, List.set_cons_succ, List.filterMap_cons, List.filterMap_nil, List.getElem?_toArray, List.getElem?_cons_zero, List.getElem?_cons_succ, List.getElem_toArray, List.getElem_cons_zero, List.getElem_cons_succ] at hK2 ⊢
          have hK := Lib.hid hK2
          clear hK2
          generalize vs 23 = y23 at *
          have h23 : y23 = _ := h23
          subst h23
          simp only [Region.wanted, Inv.yieldedD, Inv.dst, List.getD_cons_zero, List.getD_cons_succ]
          go_simp
          refine hK.out _ _ (Eq.refl _) (Below.refl _ _) (Inv.noTies _ _ _ _ _)
        · intro vs w' hb hv K hK
          have h17 : (Inv.MP.is (.int .i64 (M + min (a.zs.length : Int) 10000 + 20 * min (a.fl.length : Int) 1000))).p (vs 17) w' := hv 17 (by simp)
          have h24 : (Inv.MP.is (.int .i64 (min (a.name.size : Int) 10000))).p (vs 24) w' := hv 24 (by simp)
          clear hv
          have hK2 := hK.out
          clear hK
          simp only [Inv.putD, Inv.dst, List.foldl_cons, List.foldl_nil, List.getD_cons_zero, List.getD_cons_succ, Act.put, List.setIfInBounds_toArray, List.set_cons_zero, List.set_cons_succ, List.filterMap_cons, List.filterMap_nil, List.getElem?_toArray, List.getElem?_cons_zero, List.getElem?_cons_succ, List.getElem_toArray, List.getElem_cons_zero, List.getElem_cons_succ] at hK2 ⊢
          have hK := Lib.hid hK2
          clear hK2
          generalize vs 17 = y17 at *
          generalize vs 24 = y24 at *
          have h17 : y17 = _ := h17
          subst h17
          have h24 : y24 = _ := h24
          subst h24
          have wv : IntKind.i64.wrap (M + min (a.zs.length : Int) 10000 + 20 * min (a.fl.length : Int) 1000 + min (a.name.size : Int) 10000) = M + min (a.zs.length : Int) 10000 + 20 * min (a.fl.length : Int) 1000 + min (a.name.size : Int) 10000 := IntWalk.i64_in _ (by omega)
          simp only [Region.wanted, Inv.yieldedD, Inv.dst, List.getD_cons_zero, List.getD_cons_succ]
          go_simp
          refine hK.out _ _ (Eq.refl _) (Below.refl _ _) (Inv.noTies _ _ _ _ _)
        · intro vs w' hb hv K hK
          clear hv
          have hK2 := hK.out
          clear hK
          simp only [Inv.putD, Inv.dst, List.foldl_cons, List.foldl_nil, List.getD_cons_zero, List.getD_cons_succ, Act.put, List.setIfInBounds_toArray, List.set_cons_zero, List.set_cons_succ, List.filterMap_cons, List.filterMap_nil, List.getElem?_toArray, List.getElem?_cons_zero, List.getElem?_cons_succ, List.getElem_toArray, List.getElem_cons_zero, List.getElem_cons_succ] at hK2 ⊢
          have hK := Lib.hid hK2
          clear hK2
          simp only [Region.wanted, Inv.yieldedD, Inv.dst, List.getD_cons_zero, List.getD_cons_succ]
          go_simp
          refine hK.out _ _ (Eq.refl _) (Below.refl _ _) (Inv.noTies _ _ _ _ _)
        · intro vs w' hb hv K hK
          clear hv
          have hK2 := hK.out
          clear hK
          simp only [Inv.putD, Inv.dst, List.foldl_cons, List.foldl_nil, List.getD_cons_zero, List.getD_cons_succ, Act.put, List.setIfInBounds_toArray, List.set_cons_zero, List.set_cons_succ, List.filterMap_cons, List.filterMap_nil, List.getElem?_toArray, List.getElem?_cons_zero, List.getElem?_cons_succ, List.getElem_toArray, List.getElem_cons_zero, List.getElem_cons_succ] at hK2 ⊢
          have hK := Lib.hid hK2
          clear hK2
          simp only [Region.wanted, Inv.yieldedD, Inv.dst, List.getD_cons_zero, List.getD_cons_succ]
          go_simp
          refine hK.out _ _ (Eq.refl _) (Below.refl _ _) (Inv.noTies _ _ _ _ _)
        · intro vs w' hb hv K hK
          have h26 : (Inv.MP.is (.slice (some ⟨b, off, none⟩) len c)).p (vs 26) w' := hv 26 (by simp)
          have h27 : (Inv.MP.is (.int .i64 (q : Nat))).p (vs 27) w' := hv 27 (by simp)
          clear hv
          have hK2 := hK.out
          clear hK
          simp only [Inv.putD, Inv.dst, List.foldl_cons, List.foldl_nil, List.getD_cons_zero, List.getD_cons_succ, Act.put, List.setIfInBounds_toArray, List.set_cons_zero, List.set_cons_succ, List.filterMap_cons, List.filterMap_nil, List.getElem?_toArray, List.getElem?_cons_zero, List.getElem?_cons_succ, List.getElem_toArray, List.getElem_cons_zero, List.getElem_cons_succ] at hK2 ⊢
          have hK := Lib.hid hK2
          clear hK2
          generalize vs 26 = y26 at *
          generalize vs 27 = y27 at *
          have h26 : y26 = _ := h26
          subst h26
          have h27 : y27 = _ := h27
          subst h27
          simp only [Region.wanted, Inv.yieldedD, Inv.dst, List.getD_cons_zero, List.getD_cons_succ]
          go_simp
          refine hK.out _ _ (Eq.refl _) (Below.refl _ _) (Inv.noTies _ _ _ _ _)
        · intro vs w' hb hv K hK
          have h28 : (Inv.MP.is (.pointer (some ⟨b, off + q * 8, none⟩))).p (vs 28) w' := hv 28 (by simp)
          clear hv
          have hK2 := hK.out
          clear hK
          simp only [Inv.putD, Inv.dst, List.foldl_cons, List.foldl_nil, List.getD_cons_zero, List.getD_cons_succ, Act.put, List.setIfInBounds_toArray, List.set_cons_zero, List.set_cons_succ, List.filterMap_cons, List.filterMap_nil, List.getElem?_toArray, List.getElem?_cons_zero, List.getElem?_cons_succ, List.getElem_toArray, List.getElem_cons_zero, List.getElem_cons_succ] at hK2 ⊢
          have hK := Lib.hid hK2
          clear hK2
          generalize vs 28 = y28 at *
          have h28 : y28 = _ := h28
          subst h28
          simp only [Region.wanted, Inv.yieldedD, Inv.dst, List.getD_cons_zero, List.getD_cons_succ]
          go_simp
          refine hK.out _ _ (Eq.refl _) (Below.refl _ _) (Inv.noTies _ _ _ _ _)
        · intro vs w' hb hv K hK
          have h29 : (Inv.MP.is (.pointer (some ⟨b, off + q * 8 + 2, none⟩))).p (vs 29) w' := hv 29 (by simp)
          clear hv
          have hK2 := hK.out
          clear hK
          simp only [Inv.putD, Inv.dst, List.foldl_cons, List.foldl_nil, List.getD_cons_zero, List.getD_cons_succ, Act.put, List.setIfInBounds_toArray, List.set_cons_zero, List.set_cons_succ, List.filterMap_cons, List.filterMap_nil, List.getElem?_toArray, List.getElem?_cons_zero, List.getElem?_cons_succ, List.getElem_toArray, List.getElem_cons_zero, List.getElem_cons_succ] at hK2 ⊢
          have hK := Lib.hid hK2
          clear hK2
          generalize vs 29 = y29 at *
          have h29 : y29 = _ := h29
          subst h29
          have c2b := (hb.cell (p := ⟨b, off + q * 8 + 2, none⟩) (World.block_lt_of_cell? _ _ c2)).trans c2
          simp only [Region.wanted, Inv.yieldedD, Inv.dst, List.getD_cons_zero, List.getD_cons_succ]
          go_simp
          refine hK.out _ _ (Eq.refl _) (Below.refl _ _) (Inv.noTies _ _ _ _ _)
        · intro vs w' hb hv K hK
          have h30 : (Inv.MP.is (.string a.dst)).p (vs 30) w' := hv 30 (by simp)
          clear hv
          have hK2 := hK.out
          clear hK
          simp only [Inv.putD, Inv.dst, List.foldl_cons, List.foldl_nil, List.getD_cons_zero, List.getD_cons_succ, Act.put, List.setIfInBounds_toArray, List.set_cons_zero, List.set_cons_succ, List.filterMap_cons, List.filterMap_nil, List.getElem?_toArray, List.getElem?_cons_zero, List.getElem?_cons_succ, List.getElem_toArray, List.getElem_cons_zero, List.getElem_cons_succ] at hK2 ⊢
          have hK := Lib.hid hK2
          clear hK2
          generalize vs 30 = y30 at *
          have h30 : y30 = _ := h30
          subst h30
          simp only [Region.wanted, Inv.yieldedD, Inv.dst, List.getD_cons_zero, List.getD_cons_succ]
          go_simp
          refine hK.out _ _ (Eq.refl _) (Below.refl _ _) (Inv.noTies _ _ _ _ _)
        · intro vs w' hb hv K hK
          have h31 : (Inv.MP.is (.int .i64 (a.dst.size : Nat))).p (vs 31) w' := hv 31 (by simp)
          clear hv
          have hK2 := hK.out
          clear hK
          simp only [Inv.putD, Inv.dst, List.foldl_cons, List.foldl_nil, List.getD_cons_zero, List.getD_cons_succ, Act.put, List.setIfInBounds_toArray, List.set_cons_zero, List.set_cons_succ, List.filterMap_cons, List.filterMap_nil, List.getElem?_toArray, List.getElem?_cons_zero, List.getElem?_cons_succ, List.getElem_toArray, List.getElem_cons_zero, List.getElem_cons_succ] at hK2 ⊢
          have hK := Lib.hid hK2
          clear hK2
          generalize vs 31 = y31 at *
          have h31 : y31 = _ := h31
          subst h31
          simp only [Region.wanted, Inv.yieldedD, Inv.dst, List.getD_cons_zero, List.getD_cons_succ]
          go_simp
          refine hK.out _ _ (Eq.refl _) (Below.refl _ _) (Inv.noTies _ _ _ _ _)
        · intro vs w' hb hv K hK
          have h25 : (Inv.MP.is (.int .i64 (M + min (a.zs.length : Int) 10000 + 20 * min (a.fl.length : Int) 1000 + min (a.name.size : Int) 10000))).p (vs 25) w' := hv 25 (by simp)
          have h32 : (Inv.MP.is (.int .i64 (min (a.dst.size : Int) 10000))).p (vs 32) w' := hv 32 (by simp)
          clear hv
          have hK2 := hK.out
          clear hK
          simp only [Inv.putD, Inv.dst, List.foldl_cons, List.foldl_nil, List.getD_cons_zero, List.getD_cons_succ, Act.put, List.setIfInBounds_toArray, List.set_cons_zero, List.set_cons_succ, List.filterMap_cons, List.filterMap_nil, List.getElem?_toArray, List.getElem?_cons_zero, List.getElem?_cons_succ, List.getElem_toArray, List.getElem_cons_zero, List.getElem_cons_succ] at hK2 ⊢
          have hK := Lib.hid hK2
          clear hK2
          generalize vs 25 = y25 at *
          generalize vs 32 = y32 at *
          have h25 : y25 = _ := h25
          subst h25
          have h32 : y32 = _ := h32
          subst h32
          have wv : IntKind.i64.wrap (M + min (a.zs.length : Int) 10000 + 20 * min (a.fl.length : Int) 1000 + min (a.name.size : Int) 10000 + min (a.dst.size : Int) 10000) = M + min (a.zs.length : Int) 10000 + 20 * min (a.fl.length : Int) 1000 + min (a.name.size : Int) 10000 + min (a.dst.size : Int) 10000 := IntWalk.i64_in _ (by omega)
          simp only [Region.wanted, Inv.yieldedD, Inv.dst, List.getD_cons_zero, List.getD_cons_succ]
          go_simp
          refine hK.out _ _ (Eq.refl _) (Below.refl _ _) (Inv.noTies _ _ _ _ _)
        · have h33 : vs 33 = .int .i64 (M + min (a.zs.length : Int) 10000 + 20 * min (a.fl.length : Int) 1000 + min (a.name.size : Int) 10000 + min (a.dst.size : Int) 10000) := hv 33 (by simp)
          clear hv htie
          obtain ⟨M1, hM1e⟩ : ∃ M1 : Int, M1 = M + min (a.zs.length : Int) 10000 + 20 * min (a.fl.length : Int) 1000 + min (a.name.size : Int) 10000 + min (a.dst.size : Int) 10000 := ⟨_, rfl⟩
          rw [← hM1e] at h33
          have HM1 : RowKit.Hid (M1P a M M1) := Lib.hid ⟨by omega, by omega, by omega, by omega⟩
          clear hM1e
          simp only [Inv.putD, Inv.dst, List.foldl_cons, List.foldl_nil, List.getD_cons_zero, List.getD_cons_succ, Act.put, List.setIfInBounds_toArray, List.set_cons_zero, List.set_cons_succ, List.filterMap_cons, List.filterMap_nil, List.getElem?_toArray, List.getElem?_cons_zero, List.getElem?_cons_succ, List.getElem_toArray, List.getElem_cons_zero, List.getElem_cons_succ]
          generalize vs 0 = yy0 at *
          generalize vs 1 = yy1 at *
          generalize vs 2 = yy2 at *
          generalize vs 3 = yy3 at *
          generalize vs 4 = yy4 at *
          generalize vs 5 = yy5 at *
          generalize vs 6 = yy6 at *
          generalize vs 7 = yy7 at *
          generalize vs 8 = yy8 at *
          generalize vs 9 = yy9 at *
          generalize vs 10 = yy10 at *
          generalize vs 11 = yy11 at *
          generalize vs 12 = yy12 at *
          generalize vs 13 = yy13 at *
          generalize vs 14 = yy14 at *
          generalize vs 15 = yy15 at *
          generalize vs 16 = yy16 at *
          generalize vs 17 = yy17 at *
          generalize vs 18 = yy18 at *
          generalize vs 19 = yy19 at *
          generalize vs 20 = yy20 at *
          generalize vs 21 = yy21 at *
          generalize vs 22 = yy22 at *
          generalize vs 23 = yy23 at *
          generalize vs 24 = yy24 at *
          generalize vs 25 = yy25 at *
          generalize vs 26 = yy26 at *
          generalize vs 27 = yy27 at *
          generalize vs 28 = yy28 at *
          generalize vs 29 = yy29 at *
          generalize vs 30 = yy30 at *
          generalize vs 31 = yy31 at *
          generalize vs 32 = yy32 at *
          generalize vs 33 = yy33 at *
          subst h33
          have HBQ := Lib.hid (HB.out.trans (hbq.mono HB.out.size))
          clear hbq HB c1 c2 c6 c7
          go_upto_region 7 with fail
          generalize hgw : wq = wy at *
          clear hgw
          go_loopw [3, 5] (fun n i wx => ∃ (M2 : Int) (kq : Nat), n = .int .i64 M2 ∧ i = .int .i64 kq ∧ kq ≤ 31 ∧ kq ≤ a.fl.length ∧ M1 ≤ M2 ∧ M2 ≤ M1 + 20000 * kq ∧ RowKit.Hid (FewIn a.fl kq M2) ∧ RowKit.Hid (Below w.heap.size w wx)) (fun _ i _ => a.fl.length - (intOf i).toNat)
          case atStart => exact ⟨M1, 0, rfl, rfl, by omega, Nat.zero_le _, by omega, by omega, Lib.hid (fun k x hk => by omega), HBQ⟩
          case round =>
            clear HBQ
            obtain ⟨M2, kq, rfl, rfl, hk31, hkl, hm0, hm1, HIN, HBX⟩ := hrel
            have hM1b : M1 ≤ M + 50000 := HM1.out.2.1
            have hMM : M ≤ M1 := HM1.out.1
            obtain ⟨_, _, _, _, _, hF, _, b2, off2, hao, _, _, _, _, _, _, _, c7⟩ := H.out.below HBX.out q a HA.out
            cases hao
            by_cases hlt2 : kq < a.fl.length
            · by_cases hk30 : kq ≤ 30
              · obtain ⟨x, hx⟩ : ∃ x, a.fl[kq]? = some x := ⟨_, List.getElem?_eq_getElem hlt2⟩
                obtain ⟨hxn, hxI, hxz, b3, off3, hfo, d0, d1, d2⟩ := hF kq x hx
                rw [hfo] at c7
                unfold maxLen at hxn
                unfold manyZ at hxz
                have HX := Lib.hid hx
                clear hx hxI hF hfo d2
                go_upto_region 9 with fail
                generalize decide ((kq : Int) ≤ 30) = bk at *
                have HK30 := Lib.hid hk30
                clear hk30
                refine Inv.regionP (by kernel_rfl) ?_
                refine Inv.start0 ?_ (by kernel_rfl)
                refine Inv.regionT [0, 1, 2, 3, 4, 5, 6, 7, 8, 9, 10, 11, 12, 13, 14, 15, 16, 17, 18, 19, 20, 21, 22, 23, 24] [] 25 [] [some 64, some 65, some 66, some 67, some 68, some 69, some 70, some 71, some 72, some 73, some 74, some 75, some 76, some 77, some 78, some 79, some 80, some 81, some 82, some 83, some 84, some 85, some 86, some 87, some 88, some 3] [[], [], [], [1, 2], [3], [4], [], [5, 6], [7], [8], [9], [10], [0, 11], [], [], [13, 14], [15], [16], [], [17, 18], [19], [20], [21], [22], [12, 23]] (by kernel_rfl) (by kernel_rfl) (by kernel_rfl) (by kernel_rfl) (by kernel_rfl) [Inv.MP.is (.int .i64 M2), Inv.MP.is (.slice (some ⟨b, off, none⟩) len c), Inv.MP.is (.int .i64 (q : Nat)), Inv.MP.is (.pointer (some ⟨b, off + q * 8, none⟩)), Inv.MP.is (.pointer (some ⟨b, off + q * 8 + 7, none⟩)), Inv.MP.is (.slice (some ⟨b3, off3, none⟩) a.fl.length a.fc), Inv.MP.is (.int .i64 (kq : Nat)), Inv.MP.is (.pointer (some ⟨b3, off3 + kq * 3, none⟩)), Inv.MP.is (.pointer (some ⟨b3, off3 + kq * 3 + 1, none⟩)), Inv.MP.is (.slice x.ao x.zs.length x.c), Inv.MP.is (.int .i64 (x.zs.length : Nat)), Inv.MP.is (.int .i64 (min (x.zs.length : Int) 10000)), Inv.MP.is (.int .i64 (M2 + min (x.zs.length : Int) 10000)), Inv.MP.is (.slice (some ⟨b, off, none⟩) len c), Inv.MP.is (.int .i64 (q : Nat)), Inv.MP.is (.pointer (some ⟨b, off + q * 8, none⟩)), Inv.MP.is (.pointer (some ⟨b, off + q * 8 + 7, none⟩)), Inv.MP.is (.slice (some ⟨b3, off3, none⟩) a.fl.length a.fc), Inv.MP.is (.int .i64 (kq : Nat)), Inv.MP.is (.pointer (some ⟨b3, off3 + kq * 3, none⟩)), Inv.MP.is (.pointer (some ⟨b3, off3 + kq * 3, none⟩)), Inv.MP.is (.string x.name), Inv.MP.is (.int .i64 (x.name.size : Nat)), Inv.MP.is (.int .i64 (min (x.name.size : Int) 10000)), Inv.MP.is (.int .i64 (M2 + min (x.zs.length : Int) 10000 + min (x.name.size : Int) 10000))] [] (by intro x hx; cases hx) _ (by kernel_rfl) ⟨?_, ?_, ?_, ?_, ?_, ?_, ?_, ?_, ?_, ?_, ?_, ?_, ?_, ?_, ?_, ?_, ?_, ?_, ?_, ?_, ?_, ?_, ?_, ?_, ?_, trivial⟩ (fun vs wq hbq hv htie => ?_)
                · intro vs w' hb hv K hK
                  clear hv
                  have hK2 := hK.out
                  clear hK
                  simp only [Inv.putD, Inv.dst, List.foldl_cons, List.foldl_nil, List.getD_cons_zero, List.getD_cons_succ, Act.put, List.setIfInBounds_toArray, List.set_cons_zero, List.set_cons_succ, List.filterMap_cons, List.filterMap_nil, List.getElem?_toArray, List.getElem?_cons_zero, List.getElem?_cons_succ, List.getElem_toArray, List.getElem_cons_zero, List.getElem_cons_succ] at hK2 ⊢
                  have hK := Lib.hid hK2
                  clear hK2
                  simp only [Region.wanted, Inv.yieldedD, Inv.dst, List.getD_cons_zero, List.getD_cons_succ]
                  go_simp
                  refine hK.out _ _ (Eq.refl _) (Below.refl _ _) (Inv.noTies _ _ _ _ _)
                · intro vs w' hb hv K hK
                  clear hv
                  have hK2 := hK.out
                  clear hK
                  simp only [Inv.putD, Inv.dst, List.foldl_cons, List.foldl_nil, List.getD_cons_zero, List.getD_cons_succ, Act.put, List.setIfInBounds_toArray, List.set_cons_zero, List.set_cons_succ, List.filterMap_cons, List.filterMap_nil, List.getElem?_toArray, List.getElem?_cons_zero, List.getElem?_cons_succ, List.getElem_toArray, List.getElem_cons_zero, List.getElem_cons_succ] at hK2 ⊢
                  have hK := Lib.hid hK2
                  clear hK2
                  simp only [Region.wanted, Inv.yieldedD, Inv.dst, List.getD_cons_zero, List.getD_cons_succ]
                  go_simp
                  refine hK.out _ _ (Eq.refl _) (Below.refl _ _) (Inv.noTies _ _ _ _ _)
                · intro vs w' hb hv K hK
                  clear hv
                  have hK2 := hK.out
                  clear hK
                  simp only [Inv.putD, Inv.dst, List.foldl_cons, List.foldl_nil, List.getD_cons_zero, List.getD_cons_succ, Act.put, List.setIfInBounds_toArray, List.set_cons_zero, List.set_cons_succ, List.filterMap_cons, List.filterMap_nil, List.getElem?_toArray, List.getElem?_cons_zero, List.getElem?_cons_succ, List.getElem_toArray, List.getElem_cons_zero, List.getElem_cons_succ] at hK2 ⊢
                  have hK := Lib.hid hK2
                  clear hK2
                  simp only [Region.wanted, Inv.yieldedD, Inv.dst, List.getD_cons_zero, List.getD_cons_succ]
                  go_simp
                  refine hK.out _ _ (Eq.refl _) (Below.refl _ _) (Inv.noTies _ _ _ _ _)
                · intro vs w' hb hv K hK
                  have h1 : (Inv.MP.is (.slice (some ⟨b, off, none⟩) len c)).p (vs 1) w' := hv 1 (by simp)
                  have h2 : (Inv.MP.is (.int .i64 (q : Nat))).p (vs 2) w' := hv 2 (by simp)
                  clear hv
                  have hK2 := hK.out
                  clear hK
                  simp only [Inv.putD, Inv.dst, List.foldl_cons, List.foldl_nil, List.getD_cons_zero, List.getD_cons_succ, Act.put, List.setIfInBounds_toArray, List.set_cons_zero, List.set_cons_succ, List.filterMap_cons, List.filterMap_nil, List.getElem?_toArray, List.getElem?_cons_zero, List.getElem?_cons_succ, List.getElem_toArray, List.getElem_cons_zero, List.getElem_cons_succ] at hK2 ⊢
                  have hK := Lib.hid hK2
                  clear hK2
                  generalize vs 1 = y1 at *
                  generalize vs 2 = y2 at *
                  have h1 : y1 = _ := h1
                  subst h1
                  have h2 : y2 = _ := h2
                  subst h2
                  simp only [Region.wanted, Inv.yieldedD, Inv.dst, List.getD_cons_zero, List.getD_cons_succ]
                  go_simp
                  refine hK.out _ _ (Eq.refl _) (Below.refl _ _) (Inv.noTies _ _ _ _ _)
                · intro vs w' hb hv K hK
                  have h3 : (Inv.MP.is (.pointer (some ⟨b, off + q * 8, none⟩))).p (vs 3) w' := hv 3 (by simp)
                  clear hv
                  have hK2 := hK.out
                  clear hK
                  simp only [Inv.putD, Inv.dst, List.foldl_cons, List.foldl_nil, List.getD_cons_zero, List.getD_cons_succ, Act.put, List.setIfInBounds_toArray, List.set_cons_zero, List.set_cons_succ, List.filterMap_cons, List.filterMap_nil, List.getElem?_toArray, List.getElem?_cons_zero, List.getElem?_cons_succ, List.getElem_toArray, List.getElem_cons_zero, List.getElem_cons_succ] at hK2 ⊢
                  have hK := Lib.hid hK2
                  clear hK2
                  generalize vs 3 = y3 at *
                  have h3 : y3 = _ := h3
                  subst h3
                  simp only [Region.wanted, Inv.yieldedD, Inv.dst, List.getD_cons_zero, List.getD_cons_succ]
                  go_simp
                  refine hK.out _ _ (Eq.refl _) (Below.refl _ _) (Inv.noTies _ _ _ _ _)
                · intro vs w' hb hv K hK
                  have h4 : (Inv.MP.is (.pointer (some ⟨b, off + q * 8 + 7, none⟩))).p (vs 4) w' := hv 4 (by simp)
                  clear hv
                  have hK2 := hK.out
                  clear hK
                  simp only [Inv.putD, Inv.dst, List.foldl_cons, List.foldl_nil, List.getD_cons_zero, List.getD_cons_succ, Act.put, List.setIfInBounds_toArray, List.set_cons_zero, List.set_cons_succ, List.filterMap_cons, List.filterMap_nil, List.getElem?_toArray, List.getElem?_cons_zero, List.getElem?_cons_succ, List.getElem_toArray, List.getElem_cons_zero, List.getElem_cons_succ] at hK2 ⊢
                  have hK := Lib.hid hK2
                  clear hK2
                  generalize vs 4 = y4 at *
                  have h4 : y4 = _ := h4
                  subst h4
                  have c7b := (hb.cell (p := ⟨b, off + q * 8 + 7, none⟩) (World.block_lt_of_cell? _ _ c7)).trans c7
                  simp only [Region.wanted, Inv.yieldedD, Inv.dst, List.getD_cons_zero, List.getD_cons_succ]
                  go_simp
                  refine hK.out _ _ (Eq.refl _) (Below.refl _ _) (Inv.noTies _ _ _ _ _)
                · intro vs w' hb hv K hK
                  clear hv
                  have hK2 := hK.out
                  clear hK
                  simp only [Inv.putD, Inv.dst, List.foldl_cons, List.foldl_nil, List.getD_cons_zero, List.getD_cons_succ, Act.put, List.setIfInBounds_toArray, List.set_cons_zero, List.set_cons_succ, List.filterMap_cons, List.filterMap_nil, List.getElem?_toArray, List.getElem?_cons_zero, List.getElem?_cons_succ, List.getElem_toArray, List.getElem_cons_zero, List.getElem_cons_succ] at hK2 ⊢
                  have hK := Lib.hid hK2
                  clear hK2
                  simp only [Region.wanted, Inv.yieldedD, Inv.dst, List.getD_cons_zero, List.getD_cons_succ]
                  go_simp
                  refine hK.out _ _ (Eq.refl _) (Below.refl _ _) (Inv.noTies _ _ _ _ _)
                · intro vs w' hb hv K hK
                  have h5 : (Inv.MP.is (.slice (some ⟨b3, off3, none⟩) a.fl.length a.fc)).p (vs 5) w' := hv 5 (by simp)
                  have h6 : (Inv.MP.is (.int .i64 (kq : Nat))).p (vs 6) w' := hv 6 (by simp)
                  clear hv
                  have hK2 := hK.out
                  clear hK
                  simp only [Inv.putD, Inv.dst, List.foldl_cons, List.foldl_nil, List.getD_cons_zero, List.getD_cons_succ, Act.put, List.setIfInBounds_toArray, List.set_cons_zero, List.set_cons_succ, List.filterMap_cons, List.filterMap_nil, List.getElem?_toArray, List.getElem?_cons_zero, List.getElem?_cons_succ, List.getElem_toArray, List.getElem_cons_zero, List.getElem_cons_succ] at hK2 ⊢
                  have hK := Lib.hid hK2
                  clear hK2
                  generalize vs 5 = y5 at *
                  generalize vs 6 = y6 at *
                  have h5 : y5 = _ := h5
                  subst h5
                  have h6 : y6 = _ := h6
                  subst h6
                  simp only [Region.wanted, Inv.yieldedD, Inv.dst, List.getD_cons_zero, List.getD_cons_succ]
                  go_simp
                  refine hK.out _ _ (Eq.refl _) (Below.refl _ _) (Inv.noTies _ _ _ _ _)
                · intro vs w' hb hv K hK
                  have h7 : (Inv.MP.is (.pointer (some ⟨b3, off3 + kq * 3, none⟩))).p (vs 7) w' := hv 7 (by simp)
                  clear hv
                  have hK2 := hK.out
                  clear hK
                  simp only [Inv.putD, Inv.dst, List.foldl_cons, List.foldl_nil, List.getD_cons_zero, List.getD_cons_succ, Act.put, List.setIfInBounds_toArray, List.set_cons_zero, List.set_cons_succ, List.filterMap_cons, List.filterMap_nil, List.getElem?_toArray, List.getElem?_cons_zero, List.getElem?_cons_succ, List.getElem_toArray, List.getElem_cons_zero, List.getElem_cons_succ] at hK2 ⊢
                  have hK := Lib.hid hK2
                  clear hK2
                  generalize vs 7 = y7 at *
                  have h7 : y7 = _ := h7
                  subst h7
                  simp only [Region.wanted, Inv.yieldedD, Inv.dst, List.getD_cons_zero, List.getD_cons_succ]
                  go_simp
                  refine hK.out _ _ (Eq.refl _) (Below.refl _ _) (Inv.noTies _ _ _ _ _)
                · intro vs w' hb hv K hK
                  have h8 : (Inv.MP.is (.pointer (some ⟨b3, off3 + kq * 3 + 1, none⟩))).p (vs 8) w' := hv 8 (by simp)
                  clear hv
                  have hK2 := hK.out
                  clear hK
                  simp only [Inv.putD, Inv.dst, List.foldl_cons, List.foldl_nil, List.getD_cons_zero, List.getD_cons_succ, Act.put, List.setIfInBounds_toArray, List.set_cons_zero, List.set_cons_succ, List.filterMap_cons, List.filterMap_nil, List.getElem?_toArray, List.getElem?_cons_zero, List.getElem?_cons_succ, List.getElem_toArray, List.getElem_cons_zero, List.getElem_cons_succ] at hK2 ⊢
                  have hK := Lib.hid hK2
                  clear hK2
                  generalize vs 8 = y8 at *
                  have h8 : y8 = _ := h8
                  subst h8
                  have d1b := (hb.cell (p := ⟨b3, off3 + kq * 3 + 1, none⟩) (World.block_lt_of_cell? _ _ d1)).trans d1
                  simp only [Region.wanted, Inv.yieldedD, Inv.dst, List.getD_cons_zero, List.getD_cons_succ]
                  go_simp
                  refine hK.out _ _ (Eq.refl _) (Below.refl _ _) (Inv.noTies _ _ _ _ _)
                · intro vs w' hb hv K hK
                  have h9 : (Inv.MP.is (.slice x.ao x.zs.length x.c)).p (vs 9) w' := hv 9 (by simp)
                  clear hv
                  have hK2 := hK.out
                  clear hK
                  simp only [Inv.putD, Inv.dst, List.foldl_cons, List.foldl_nil, List.getD_cons_zero, List.getD_cons_succ, Act.put, List.setIfInBounds_toArray, List.set_cons_zero, List.set_cons_succ, List.filterMap_cons, List.filterMap_nil, List.getElem?_toArray, List.getElem?_cons_zero, List.getElem?_cons_succ, List.getElem_toArray, List.getElem_cons_zero, List.getElem_cons_succ] at hK2 ⊢
                  have hK := Lib.hid hK2
                  clear hK2
                  generalize vs 9 = y9 at *
                  have h9 : y9 = _ := h9
                  subst h9
                  simp only [Region.wanted, Inv.yieldedD, Inv.dst, List.getD_cons_zero, List.getD_cons_succ]
                  go_simp
                  refine hK.out _ _ (Eq.refl _) (Below.refl _ _) (Inv.noTies _ _ _ _ _)
                · intro vs w' hb hv K hK
                  have h10 : (Inv.MP.is (.int .i64 (x.zs.length : Nat))).p (vs 10) w' := hv 10 (by simp)
                  clear hv
                  have hK2 := hK.out
                  clear hK
                  simp only [Inv.putD, Inv.dst, List.foldl_cons, List.foldl_nil, List.getD_cons_zero, List.getD_cons_succ, Act.put, List.setIfInBounds_toArray, List.set_cons_zero, List.set_cons_succ, List.filterMap_cons, List.filterMap_nil, List.getElem?_toArray, List.getElem?_cons_zero, List.getElem?_cons_succ, List.getElem_toArray, List.getElem_cons_zero, List.getElem_cons_succ] at hK2 ⊢
                  have hK := Lib.hid hK2
                  clear hK2
                  generalize vs 10 = y10 at *
                  have h10 : y10 = _ := h10
                  subst h10
                  simp only [Region.wanted, Inv.yieldedD, Inv.dst, List.getD_cons_zero, List.getD_cons_succ]
                  go_simp
                  refine hK.out _ _ (Eq.refl _) (Below.refl _ _) (Inv.noTies _ _ _ _ _)
                · intro vs w' hb hv K hK
                  have h0 : (Inv.MP.is (.int .i64 M2)).p (vs 0) w' := hv 0 (by simp)
                  have h11 : (Inv.MP.is (.int .i64 (min (x.zs.length : Int) 10000))).p (vs 11) w' := hv 11 (by simp)
                  clear hv
                  have hK2 := hK.out
                  clear hK
                  simp only [Inv.putD, Inv.dst, List.foldl_cons, List.foldl_nil, List.getD_cons_zero, List.getD_cons_succ, Act.put, List.setIfInBounds_toArray, List.set_cons_zero, List.set_cons_succ, List.filterMap_cons, List.filterMap_nil, List.getElem?_toArray, List.getElem?_cons_zero, List.getElem?_cons_succ, List.getElem_toArray, List.getElem_cons_zero, List.getElem_cons_succ] at hK2 ⊢
                  have hK := Lib.hid hK2
                  clear hK2
                  generalize vs 0 = y0 at *
                  generalize vs 11 = y11 at *
                  have h0 : y0 = _ := h0
                  subst h0
                  have h11 : y11 = _ := h11
                  subst h11
                  have wv : IntKind.i64.wrap (M2 + min (x.zs.length : Int) 10000) = M2 + min (x.zs.length : Int) 10000 := IntWalk.i64_in _ (by omega)
                  simp only [Region.wanted, Inv.yieldedD, Inv.dst, List.getD_cons_zero, List.getD_cons_succ]
                  go_simp
                  refine hK.out _ _ (Eq.refl _) (Below.refl _ _) (Inv.noTies _ _ _ _ _)
                · intro vs w' hb hv K hK
                  clear hv
                  have hK2 := hK.out
                  clear hK
                  simp only [Inv.putD, Inv.dst, List.foldl_cons, List.foldl_nil, List.getD_cons_zero, List.getD_cons_succ, Act.put, List.setIfInBounds_toArray, List.set_cons_zero, List.set_cons_succ, List.filterMap_cons, List.filterMap_nil, List.getElem?_toArray, List.getElem?_cons_zero, List.getElem?_cons_succ, List.getElem_toArray, List.getElem_cons_zero, List.getElem_cons_succ] at hK2 ⊢
                  have hK := Lib.hid hK2
                  clear hK2
                  simp only [Region.wanted, Inv.yieldedD, Inv.dst, List.getD_cons_zero, List.getD_cons_succ]
                  go_simp
                  refine hK.out _ _ (Eq.refl _) (Below.refl _ _) (Inv.noTies _ _ _ _ _)
                · intro vs w' hb hv K hK
                  clear hv
                  have hK2 := hK.out
                  clear hK
                  simp only [Inv.putD, Inv.dst, List.foldl_cons, List.foldl_nil, List.getD_cons_zero, List.getD_cons_succ, Act.put, List.setIfInBounds_toArray, List.set_cons_zero, List.set_cons_succ, List.filterMap_cons, List.filterMap_nil, List.getElem?_toArray, List.getElem?_cons_zero, List.getElem?_cons_succ, List.getElem_toArray, List.getElem_cons_zero, List.getElem_cons_succ] at hK2 ⊢
                  have hK := Lib.hid hK2
                  clear hK2
                  simp only [Region.wanted, Inv.yieldedD, Inv.dst, List.getD_cons_zero, List.getD_cons_succ]
                  go_simp
                  refine hK.out _ _ (Eq.refl _) (Below.refl _ _) (Inv.noTies _ _ _ _ _)
                · intro vs w' hb hv K hK
                  have h13 : (Inv.MP.is (.slice (some ⟨b, off, none⟩) len c)).p (vs 13) w' := hv 13 (by simp)
                  have h14 : (Inv.MP.is (.int .i64 (q : Nat))).p (vs 14) w' := hv 14 (by simp)
                  clear hv
                  have hK2 := hK.out
                  clear hK
                  simp only [Inv.putD, Inv.dst, List.foldl_cons, List.foldl_nil, List.getD_cons_zero, List.getD_cons_succ, Act.put, List.setIfInBounds_toArray, List.set_cons_zero, List.set_cons_succ, List.filterMap_cons, List.filterMap_nil, List.getElem?_toArray, List.getElem?_cons_zero, List.getElem?_cons_succ, List.getElem_toArray, List.getElem_cons_zero, List.getElem_cons_succ] at hK2 ⊢
                  have hK := Lib.hid hK2
                  clear hK2
                  generalize vs 13 = y13 at *
                  generalize vs 14 = y14 at *
                  have h13 : y13 = _ := h13
                  subst h13
                  have h14 : y14 = _ := h14
                  subst h14
                  simp only [Region.wanted, Inv.yieldedD, Inv.dst, List.getD_cons_zero, List.getD_cons_succ]
                  go_simp
                  refine hK.out _ _ (Eq.refl _) (Below.refl _ _) (Inv.noTies _ _ _ _ _)
                · intro vs w' hb hv K hK
                  have h15 : (Inv.MP.is (.pointer (some ⟨b, off + q * 8, none⟩))).p (vs 15) w' := hv 15 (by simp)
                  clear hv
                  have hK2 := hK.out
                  clear hK
                  simp only [Inv.putD, Inv.dst, List.foldl_cons, List.foldl_nil, List.getD_cons_zero, List.getD_cons_succ, Act.put, List.setIfInBounds_toArray, List.set_cons_zero, List.set_cons_succ, List.filterMap_cons, List.filterMap_nil, List.getElem?_toArray, List.getElem?_cons_zero, List.getElem?_cons_succ, List.getElem_toArray, List.getElem_cons_zero, List.getElem_cons_succ] at hK2 ⊢
                  have hK := Lib.hid hK2
                  clear hK2
                  generalize vs 15 = y15 at *
                  have h15 : y15 = _ := h15
                  subst h15
                  simp only [Region.wanted, Inv.yieldedD, Inv.dst, List.getD_cons_zero, List.getD_cons_succ]
                  go_simp
                  refine hK.out _ _ (Eq.refl _) (Below.refl _ _) (Inv.noTies _ _ _ _ _)
                · intro vs w' hb hv K hK
                  have h16 : (Inv.MP.is (.pointer (some ⟨b, off + q * 8 + 7, none⟩))).p (vs 16) w' := hv 16 (by simp)
                  clear hv
                  have hK2 := hK.out
                  clear hK
                  simp only [Inv.putD, Inv.dst, List.foldl_cons, List.foldl_nil, List.getD_cons_zero, List.getD_cons_succ, Act.put, List.setIfInBounds_toArray, List.set_cons_zero, List.set_cons_succ, List.filterMap_cons, List.filterMap_nil, List.getElem?_toArray, List.getElem?_cons_zero, List.getElem?_cons_succ, List.getElem_toArray, List.getElem_cons_zero, List.getElem_cons_succ] at hK2 ⊢
                  have hK := Lib.hid hK2
                  clear hK2
                  generalize vs 16 = y16 at *
                  have h16 : y16 = _ := h16
                  subst h16
                  have c7b := (hb.cell (p := ⟨b, off + q * 8 + 7, none⟩) (World.block_lt_of_cell? _ _ c7)).trans c7
                  simp only [Region.wanted, Inv.yieldedD, Inv.dst, List.getD_cons_zero, List.getD_cons_succ]
                  go_simp
                  refine hK.out _ _ (Eq.refl _) (Below.refl _ _) (Inv.noTies _ _ _ _ _)
                · intro vs w' hb hv K hK
                  clear hv
                  have hK2 := hK.out
                  clear hK
                  simp only [Inv.putD, Inv.dst, List.foldl_cons, List.foldl_nil, List.getD_cons_zero, List.getD_cons_succ, Act.put, List.setIfInBounds_toArray, List.set_cons_zero, List.set_cons_succ, List.filterMap_cons, List.filterMap_nil, List.getElem?_toArray, List.getElem?_cons_zero, List.getElem?_cons_succ, List.getElem_toArray, List.getElem_cons_zero, List.getElem_cons_succ] at hK2 ⊢
                  have hK := Lib.hid hK2
                  clear hK2
                  simp only [Region.wanted, Inv.yieldedD, Inv.dst, List.getD_cons_zero, List.getD_cons_succ]
                  go_simp
                  refine hK.out _ _ (Eq.refl _) (Below.refl _ _) (Inv.noTies _ _ _ _ _)
                · intro vs w' hb hv K hK
                  have h17 : (Inv.MP.is (.slice (some ⟨b3, off3, none⟩) a.fl.length a.fc)).p (vs 17) w' := hv 17 (by simp)
                  have h18 : (Inv.MP.is (.int .i64 (kq : Nat))).p (vs 18) w' := hv 18 (by simp)
                  clear hv
                  have hK2 := hK.out
                  clear hK
                  simp only [Inv.putD, Inv.dst, List.foldl_cons, List.foldl_nil, List.getD_cons_zero, List.getD_cons_succ, Act.put, List.setIfInBounds_toArray, List.set_cons_zero, List.set_cons_succ, List.filterMap_cons, List.filterMap_nil, List.getElem?_toArray, List.getElem?_cons_zero, List.getElem?_cons_succ, List.getElem_toArray, List.getElem_cons_zero, List.getElem_cons_succ] at hK2 ⊢
                  have hK := Lib.hid hK2
                  clear hK2
                  generalize vs 17 = y17 at *
                  generalize vs 18 = y18 at *
                  have h17 : y17 = _ := h17
                  subst h17
                  have h18 : y18 = _ := h18
                  subst h18
                  simp only [Region.wanted, Inv.yieldedD, Inv.dst, List.getD_cons_zero, List.getD_cons_succ]
                  go_simp
                  refine hK.out _ _ (Eq.refl _) (Below.refl _ _) (Inv.noTies _ _ _ _ _)
                · intro vs w' hb hv K hK
                  have h19 : (Inv.MP.is (.pointer (some ⟨b3, off3 + kq * 3, none⟩))).p (vs 19) w' := hv 19 (by simp)
                  clear hv
                  have hK2 := hK.out
                  clear hK
                  simp only [Inv.putD, Inv.dst, List.foldl_cons, List.foldl_nil, List.getD_cons_zero, List.getD_cons_succ, Act.put, List.setIfInBounds_toArray, List.set_cons_zero, List.set_cons_succ, List.filterMap_cons, List.filterMap_nil, List.getElem?_toArray, List.getElem?_cons_zero, List.getElem?_cons_succ, List.getElem_toArray, List.getElem_cons_zero, List.getElem_cons_succ] at hK2 ⊢
                  have hK := Lib.hid hK2
                  clear hK2
                  generalize vs 19 = y19 at *
                  have h19 : y19 = _ := h19
                  subst h19
                  simp only [Region.wanted, Inv.yieldedD, Inv.dst, List.getD_cons_zero, List.getD_cons_succ]
                  go_simp
                  refine hK.out _ _ (Eq.refl _) (Below.refl _ _) (Inv.noTies _ _ _ _ _)
                · intro vs w' hb hv K hK
                  have h20 : (Inv.MP.is (.pointer (some ⟨b3, off3 + kq * 3, none⟩))).p (vs 20) w' := hv 20 (by simp)
                  clear hv
                  have hK2 := hK.out
                  clear hK
                  simp only [Inv.putD, Inv.dst, List.foldl_cons, List.foldl_nil, List.getD_cons_zero, List.getD_cons_succ, Act.put, List.setIfInBounds_toArray, List.set_cons_zero, List.set_cons_succ, List.filterMap_cons, List.filterMap_nil, List.getElem?_toArray, List.getElem?_cons_zero, List.getElem?_cons_succ, List.getElem_toArray, List.getElem_cons_zero, List.getElem_cons_succ] at hK2 ⊢
                  have hK := Lib.hid hK2
                  clear hK2
                  generalize vs 20 = y20 at *
                  have h20 : y20 = _ := h20
                  subst h20
                  have d0b := (hb.cell (p := ⟨b3, off3 + kq * 3, none⟩) (World.block_lt_of_cell? _ _ d0)).trans d0
                  simp only [Region.wanted, Inv.yieldedD, Inv.dst, List.getD_cons_zero, List.getD_cons_succ]
                  go_simp
                  refine hK.out _ _ (Eq.refl _) (Below.refl _ _) (Inv.noTies _ _ _ _ _)
                · intro vs w' hb hv K hK
                  have h21 : (Inv.MP.is (.string x.name)).p (vs 21) w' := hv 21 (by simp)
                  clear hv
                  have hK2 := hK.out
                  clear hK
                  simp only [Inv.putD, Inv.dst, List.foldl_cons, List.foldl_nil, List.getD_cons_zero, List.getD_cons_succ, Act.put, List.setIfInBounds_toArray, List.set_cons_zero, List.set_cons_succ, List.filterMap_cons, List.filterMap_nil, List.getElem?_toArray, List.getElem?_cons_zero, List.getElem?_cons_succ, List.getElem_toArray, List.getElem_cons_zero, List.getElem_cons_succ] at hK2 ⊢
                  have hK := Lib.hid hK2
                  clear hK2
                  generalize vs 21 = y21 at *
                  have h21 : y21 = _ := h21
                  subst h21
                  simp only [Region.wanted, Inv.yieldedD, Inv.dst, List.getD_cons_zero, List.getD_cons_succ]
                  go_simp
                  refine hK.out _ _ (Eq.refl _) (Below.refl _ _) (Inv.noTies _ _ _ _ _)
                · intro vs w' hb hv K hK
                  have h22 : (Inv.MP.is (.int .i64 (x.name.size : Nat))).p (vs 22) w' := hv 22 (by simp)
                  clear hv
                  have hK2 := hK.out
                  clear hK
                  simp only [Inv.putD, Inv.dst, List.foldl_cons, List.foldl_nil, List.getD_cons_zero, List.getD_cons_succ, Act.put, List.setIfInBounds_toArray, List.set_cons_zero, List.set_cons_succ, List.filterMap_cons, List.filterMap_nil, List.getElem?_toArray, List.getElem?_cons_zero, List.getElem?_cons_succ, List.getElem_toArray, List.getElem_cons_zero, List.getElem_cons_succ] at hK2 ⊢
                  have hK := Lib.hid hK2
                  clear hK2
                  generalize vs 22 = y22 at *
                  have h22 : y22 = _ := h22
                  subst h22
                  simp only [Region.wanted, Inv.yieldedD, Inv.dst, List.getD_cons_zero, List.getD_cons_succ]
                  go_simp
                  refine hK.out _ _ (Eq.refl _) (Below.refl _ _) (Inv.noTies _ _ _ _ _)
                · intro vs w' hb hv K hK
                  have h12 : (Inv.MP.is (.int .i64 (M2 + min (x.zs.length : Int) 10000))).p (vs 12) w' := hv 12 (by simp)
                  have h23 : (Inv.MP.is (.int .i64 (min (x.name.size : Int) 10000))).p (vs 23) w' := hv 23 (by simp)
                  clear hv
                  have hK2 := hK.out
                  clear hK
                  simp only [Inv.putD, Inv.dst, List.foldl_cons, List.foldl_nil, List.getD_cons_zero, List.getD_cons_succ, Act.put, List.setIfInBounds_toArray, List.set_cons_zero, List.set_cons_succ, List.filterMap_cons, List.filterMap_nil, List.getElem?_toArray, List.getElem?_cons_zero, List.getElem?_cons_succ, List.getElem_toArray, List.getElem_cons_zero, List.getElem_cons_succ] at hK2 ⊢
                  have hK := Lib.hid hK2
                  clear hK2
                  generalize vs 12 = y12 at *
                  generalize vs 23 = y23 at *
                  have h12 : y12 = _ := h12
                  subst h12
                  have h23 : y23 = _ := h23
                  subst h23
                  have wv : IntKind.i64.wrap (M2 + min (x.zs.length : Int) 10000 + min (x.name.size : Int) 10000) = M2 + min (x.zs.length : Int) 10000 + min (x.name.size : Int) 10000 := IntWalk.i64_in _ (by omega)
                  simp only [Region.wanted, Inv.yieldedD, Inv.dst, List.getD_cons_zero, List.getD_cons_succ]
                  go_simp
                  refine hK.out _ _ (Eq.refl _) (Below.refl _ _) (Inv.noTies _ _ _ _ _)
                · have h24 : vs 24 = .int .i64 (M2 + min (x.zs.length : Int) 10000 + min (x.name.size : Int) 10000) := hv 24 (by simp)
                  clear hv htie
                  obtain ⟨M3, hM3⟩ : ∃ M3 : Int, M3 = M2 + min (x.zs.length : Int) 10000 + min (x.name.size : Int) 10000 := ⟨_, rfl⟩
                  rw [← hM3] at h24
                  have g1 : M2 ≤ M3 ∧ M3 ≤ M2 + 20000 ∧ min (x.zs.length : Int) 10000 ≤ M3 := ⟨by omega, by omega, by omega⟩
                  have G1 := Lib.hid g1
                  clear hM3 g1
                  simp only [Inv.putD, Inv.dst, List.foldl_cons, List.foldl_nil, List.getD_cons_zero, List.getD_cons_succ, Act.put, List.setIfInBounds_toArray, List.set_cons_zero, List.set_cons_succ, List.filterMap_cons, List.filterMap_nil, List.getElem?_toArray, List.getElem?_cons_zero, List.getElem?_cons_succ, List.getElem_toArray, List.getElem_cons_zero, List.getElem_cons_succ]
                  generalize vs 0 = yy0 at *
                  generalize vs 1 = yy1 at *
                  generalize vs 2 = yy2 at *
                  generalize vs 3 = yy3 at *
                  generalize vs 4 = yy4 at *
                  generalize vs 5 = yy5 at *
                  generalize vs 6 = yy6 at *
                  generalize vs 7 = yy7 at *
                  generalize vs 8 = yy8 at *
                  generalize vs 9 = yy9 at *
                  generalize vs 10 = yy10 at *
                  generalize vs 11 = yy11 at *
                  generalize vs 12 = yy12 at *
                  generalize vs 13 = yy13 at *
                  generalize vs 14 = yy14 at *
                  generalize vs 15 = yy15 at *
                  generalize vs 16 = yy16 at *
                  generalize vs 17 = yy17 at *
                  generalize vs 18 = yy18 at *
                  generalize vs 19 = yy19 at *
                  generalize vs 20 = yy20 at *
                  generalize vs 21 = yy21 at *
                  generalize vs 22 = yy22 at *
                  generalize vs 23 = yy23 at *
                  generalize vs 24 = yy24 at *
                  subst h24
                  have HBZ := Lib.hid (HBX.out.trans (hbq.mono HBX.out.size))
                  clear hbq c7 d0 d1
                  go_wp2
                  have g1 := G1.out
                  refine ⟨⟨M3, kq + 1, rfl, by go_num, by have := HK30.out; omega, by omega, by omega, by omega, Lib.hid (few_in HIN.out HX.out g1.1 g1.2.2), HBZ⟩, by simp [intOf]; omega⟩
              · have HOW : kq = a.fl.length ∨ kq = 31 := by omega
                have HOW := Lib.hid HOW
                clear hF
                go_wp2
                have g1 := HM1.out
                refine ⟨⟨M2, q + 1, rfl, by go_num, by have := HQ60.out; omega, by omega, by have := g1.1; omega, by have := g1.2.1; omega, Lib.hid (few_step HUP.out HA.out g1 HIN.out hm0 HOW.out), HBX⟩, by simp [intOf]; omega⟩
            · have HOW : kq = a.fl.length ∨ kq = 31 := by omega
              have HOW := Lib.hid HOW
              clear hF
              go_wp2
              have g1 := HM1.out
              refine ⟨⟨M2, q + 1, rfl, by go_num, by have := HQ60.out; omega, by omega, by have := g1.1; omega, by have := g1.2.1; omega, Lib.hid (few_step HUP.out HA.out g1 HIN.out hm0 HOW.out), HBX⟩, by simp [intOf]; omega⟩
      · go_wp2
        go_ret
        exact ⟨⟨_, rfl, fun hb => (by simp at hb <;> omega)⟩, HB.out⟩
    · obtain rfl : q = len := by omega
      by_cases h60 : q ≤ 60
      · by_cases h6 : M ≤ 6000
        · go_wp2
          go_ret
          exact ⟨⟨_, rfl, fun _ => few_ok HUP.out HLEN.out (by rw [← HLEN.out]; exact h60) h6⟩, HB.out⟩
        · go_wp2
          go_ret
          exact ⟨⟨_, rfl, fun hb => (by simp at hb <;> omega)⟩, HB.out⟩
      · go_wp2
        go_ret
        exact ⟨⟨_, rfl, fun hb => (by simp at hb <;> omega)⟩, HB.out⟩
end Go.Proofs.Ytmfphnhdahaooaa
