/- The texts Gp, one behind the other. -/
import Derived.Test.YtmfphnhdahaooaaM12
import Derived.Test.YtmfphnhdahaooaaM07
import Derived.Laws.CopyOwn
set_option linter.unusedSimpArgs false
set_option linter.unusedVariables false
/- Bytes put into a file, anywhere: over some of those that it has, and behind them. -/
namespace Go.Proofs.Ytmfphnhdahaooaa
open Go.RowKit Go.Maps

def putL (xs : List Value) (at_ : Nat) (news : List Value) : List Value := xs.take at_ ++ (news ++ xs.drop (at_ + news.length))

structure PutG (B X : Nat) (bv lv : Value) (at_ : Nat) (xs news : List Value) (w w' : World) : Prop where
  own : ∃ bv', w'.heap[X]? = some (.cells #[bv', lv] 85 (0, 0)) ∧ w'.ownsRow B 5 1 bv' (putL xs at_ news).length (putL xs at_ news) ∧ (bv'.ownBlock = bv.ownBlock ∨ ∃ g, bv'.ownBlock = some g ∧ w.heap.size ≤ g)
  size : w.heap.size ≤ w'.heap.size
  rest : w'.os = w.os ∧ w'.tape = w.tape ∧ w'.output = w.output
  kept : ∀ j x, j ≠ X → some j ≠ bv.ownBlock → w.heap[j]? = some x → w'.heap[j]? = some x

theorem own_rebase {w : World} {B : Nat} {e : TypeId} {size n : Nat} {v : Value} {xs : List Value} (h : w.ownsRow 0 e size v n xs) (hB : ∀ g, v.ownBlock = some g → B ≤ g) : w.ownsRow B e size v n xs := by
  obtain ⟨h1, h2⟩ := h
  refine ⟨h1, ?_⟩
  rcases h2 with h | ⟨g, cap, cur, rfl, _, c⟩
  · exact .inl h
  · exact .inr ⟨g, cap, cur, rfl, hB g rfl, c⟩

theorem putL_end (xs news : List Value) : putL xs xs.length news = xs ++ news := by simp [putL]

theorem putG_end {B X : Nat} {bv lv : Value} {xs news : List Value} {w w' : World} (h : PutEnd X bv lv xs.length news.length xs news w w') (hB : w.ownsRow B 5 1 bv xs.length xs) (hBw : B ≤ w.heap.size) : PutG B X bv lv xs.length xs news w w' := by
  obtain ⟨bv', h1, h2, h3⟩ := h.own
  refine ⟨⟨bv', h1, ?_, h3⟩, h.size, h.rest, h.kept⟩
  rw [putL_end, List.length_append]
  refine own_rebase h2 fun g hg => ?_
  rcases h3 with e | ⟨g2, e, hg2⟩
  · exact (hB.lt g (by rw [← e]; exact hg)).1
  · rw [e] at hg
    obtain rfl := Option.some.inj hg
    omega

theorem own_over {w : World} {B g len cb a : Nat} {xs cs : List Value} {cur : Array Value} (h : w.ownsRow B 5 1 (.slice (some ⟨g, 0, none⟩) len cb) len xs) (hg : w.heap[g]? = some (.cells cur 5 (0, 0))) (hc : a + cs.length ≤ len) :
    (w.setRow g (cur.toList.take a ++ (cs ++ cur.toList.drop (a + cs.length))).toArray).ownsRow B 5 1 (.slice (some ⟨g, 0, none⟩) len cb) len (putL xs a cs) := by
  obtain ⟨h1, h2⟩ := h
  rcases h2 with ⟨e, _⟩ | ⟨g2, cap, cur2, e, hB, hb, hn, hm, hs, hx⟩
  · cases e
  · simp at e
    obtain ⟨rfl, rfl⟩ := e
    rw [hg] at hb
    obtain rfl : cur = cur2 := by simpa using hb
    rw [Nat.mul_one] at h1 hx hs
    have hcl : cur.toList.length = cb := by simpa using hs
    refine ⟨?_, .inr ⟨g, cb, _, rfl, hB, setRow_heap w g _ _ _ _ hg, hn, hm, ?_, ?_⟩⟩
    · unfold putL
      simp
      omega
    · simp
      omega
    · unfold putL
      rw [Nat.mul_one, ← hx, List.take_append, List.take_append]
      simp only [List.length_take, List.take_take, List.drop_take]
      have e1 : min len (min a cb) = min a len := by omega
      have e2 : len - min a cb = len - a := by omega
      rw [hcl]
      congr 1
      · congr 1; omega
      · rw [show len - min a cb = len - a by omega, List.take_of_length_le (by omega)]
        congr 2
        omega

set_option maxRecDepth 100000 in
set_option maxHeartbeats 1000000 in
/-- All that is put lies over bytes that are there. -/
theorem put_over (B X g cb S at_ len k : Nat) (lv : Value) (xs news : List Value) (w : World) (hX : w.heap[X]? = some (.cells #[.slice (some ⟨g, 0, none⟩) len cb, lv] 85 (0, 0))) (hB : w.ownsRow B 5 1 (.slice (some ⟨g, 0, none⟩) len cb) len xs)
    (hlen : len ≤ 1048576) (hlc : len ≤ cb) (hk : news.length = k) (hk0 : 0 < k) (hat : at_ + k ≤ len) (hnews : ∀ W : World, W.heap = w.heap → ∀ j u, news[j]? = some u → W.cell? ((⟨S, 0, none⟩ : Addr).add j) = some u) (hone : ∀ u ∈ news, u.oneCell' = true) :
    Calls Try.prog 59 #[.pointer (some ⟨X, 0, none⟩), .int .i64 at_, .slice (some ⟨S, 0, none⟩) k k] w fun e w' => e = .returned (.tuple #[]) ∧ PutG B X (.slice (some ⟨g, 0, none⟩) len cb) lv at_ xs news w w' := by
  have c0 : w.cell? ⟨X, 0, none⟩ = some (.slice (some ⟨g, 0, none⟩) len cb) := hb_at hX 0 rfl
  obtain ⟨cur, hg⟩ : ∃ cur, w.heap[g]? = some (.cells cur 5 (0, 0)) := by
    rcases hB.2 with ⟨e, _⟩ | ⟨g2, _, cur, e, _, hb, _⟩
    · cases e
    · simp at e; rw [e.1]; exact ⟨cur, hb⟩
  have hcs : cur.size = cb := by
    rcases hB.2 with ⟨e, _⟩ | ⟨g2, cap, cur2, e, _, hb, _, _, hs, _⟩
    · cases e
    · simp at e
      rw [← e.1, hg] at hb
      obtain rfl : cur = cur2 := by simpa using hb
      rw [hs, ← e.2, Nat.mul_one]
  have hneX : X ≠ g := tag_ne hX hg (by decide)
  have i1 : (at_ : Int) ≤ (len : Int) := by omega
  have i2 : (0 : Int) ≤ (at_ : Int) := by omega
  have i3 : ¬ cb ≤ at_ := by omega
  have HN := Lib.hid hnews
  have HO := Lib.hid hone
  have HX := Lib.hid hX
  have HB := Lib.hid hB
  have HG := Lib.hid hg
  have HK := Lib.hid hk
  have HCS := Lib.hid hcs
  have HAT := Lib.hid hat
  clear hnews hone hX hB hg hk hcs hat
  go_enter Try.func59, Try.ntmps59
  go_upto_region 1 with (refine wpList_copy_own (o := ⟨some 14, _, _, _, _, _⟩) rfl (.tmp 12) (.tmp 13) 45 45 rfl 5 Try.underlying45 size5 g at_ (len - at_) (cb - at_) ⟨S, 0, none⟩ k k rfl rfl cur 5 HG.out news (by rw [HK.out]; have := HAT.out; simp [Nat.min_def]; omega) (HN.out _ rfl) (by rw [HK.out, HCS.out]; have := HAT.out; omega) HO.out ?_)
  obtain ⟨L, hL⟩ : ∃ L, L = (cur.toList.take at_ ++ (news ++ cur.toList.drop (at_ + news.length))).toArray := ⟨_, rfl⟩
  rw [← hL]
  have hX2 : (w.setRow g L).heap[X]? = some (.cells #[.slice (some ⟨g, 0, none⟩) len cb, lv] 85 (0, 0)) := by rw [setRow_other w g X L hneX]; exact HX.out
  have hB2 : (w.setRow g L).ownsRow B 5 1 (.slice (some ⟨g, 0, none⟩) len cb) len (putL xs at_ news) := by rw [hL]; exact own_over HB.out HG.out (by rw [HK.out]; exact HAT.out)
  have HL := Lib.hid hL
  have HX2 := Lib.hid hX2
  have HB2 := Lib.hid hB2
  have d0 : (w.setRow g L).cell? ⟨X, 0, none⟩ = some (.slice (some ⟨g, 0, none⟩) len cb) := hb_at hX2 0 rfl
  have f0 := hb_free hX2 0
  clear hL hX2 hB2 c0
  obtain ⟨i0, hi, hz0, hz1, hz2⟩ := info_parts info5
  rw [HK.out]
  have i4 : (0 : Int) ≤ (k : Int) := by omega
  go_region_law (refine step_append_zero rfl (.tmp 19) (.tmp 22) 45 rfl 5 i0 Try.underlying45 hi (some ⟨g, 0, none⟩) len cb hlc (by simp [Act.eval, Act.put] <;> omega) ⟨S, 0, none⟩ 0 (by simp [Act.eval, Act.put] <;> omega) ?_)
  all_goals
    go_wp2_with fail
    go_end0
    rw [setCell_id d0]
    have e : (putL xs at_ news).length = len := by have := HB2.out.1; omega
    refine ⟨rfl, ⟨_, HX2.out, ?_, .inl rfl⟩, by simp [World.setRow], ⟨rfl, rfl, rfl⟩, fun j x hj hjb hx => ?_⟩
    · rw [e]
      exact own_drewN HB2.out 1
    · show (w.setRow g L).heap[j]? = some x
      rw [setRow_other w g j L (fun e => hjb (by rw [e]; rfl))]
      exact hx

theorem putL_past {xs news : List Value} {a : Nat} (ha : a ≤ xs.length) (hk : xs.length ≤ a + news.length) : putL xs a (news.take (xs.length - a)) ++ news.drop (xs.length - a) = putL xs a news := by
  unfold putL
  have e : (news.take (xs.length - a)).length = xs.length - a := by rw [List.length_take]; omega
  rw [e, List.drop_of_length_le (by omega), List.drop_of_length_le (show xs.length ≤ a + news.length by omega), List.append_nil, List.append_nil, List.append_assoc, List.take_append_drop]

set_option maxRecDepth 100000 in
set_option maxHeartbeats 1000000 in
/-- What is put lies over bytes that are there, and goes on behind them. -/
theorem put_past (B X g cb S at_ len k : Nat) (lv : Value) (xs news : List Value) (w : World) (hX : w.heap[X]? = some (.cells #[.slice (some ⟨g, 0, none⟩) len cb, lv] 85 (0, 0))) (hB : w.ownsRow B 5 1 (.slice (some ⟨g, 0, none⟩) len cb) len xs) (hBw : B ≤ w.heap.size) (hSg : S ≠ g)
    (hlen : len ≤ 1048576) (hlc : len ≤ cb) (hk : news.length = k) (hk1 : k ≤ 1048576) (hat : at_ < len) (hpast : len < at_ + k) (hnews : ∀ W : World, W.heap[S]? = w.heap[S]? → ∀ j u, news[j]? = some u → W.cell? ⟨S, j, none⟩ = some u) (hone : ∀ u ∈ news, u.oneCell' = true) :
    Calls Try.prog 59 #[.pointer (some ⟨X, 0, none⟩), .int .i64 at_, .slice (some ⟨S, 0, none⟩) k k] w fun e w' => e = .returned (.tuple #[]) ∧ PutG B X (.slice (some ⟨g, 0, none⟩) len cb) lv at_ xs news w w' := by
  have c0 : w.cell? ⟨X, 0, none⟩ = some (.slice (some ⟨g, 0, none⟩) len cb) := hb_at hX 0 rfl
  obtain ⟨cur, hg⟩ : ∃ cur, w.heap[g]? = some (.cells cur 5 (0, 0)) := by
    rcases hB.2 with ⟨e, _⟩ | ⟨g2, _, cur, e, _, hb, _⟩
    · cases e
    · simp at e; rw [e.1]; exact ⟨cur, hb⟩
  have hcs : cur.size = cb := by
    rcases hB.2 with ⟨e, _⟩ | ⟨g2, cap, cur2, e, _, hb, _, _, hs, _⟩
    · cases e
    · simp at e
      rw [← e.1, hg] at hb
      obtain rfl : cur = cur2 := by simpa using hb
      rw [hs, ← e.2, Nat.mul_one]
  have hxl : xs.length = len := by have := hB.1; omega
  have hneX : X ≠ g := tag_ne hX hg (by decide)
  obtain ⟨q, hq⟩ : ∃ q, q = len - at_ := ⟨_, rfl⟩
  obtain ⟨cs, hcsl⟩ : ∃ cs, cs = news.take q := ⟨_, rfl⟩
  have hcl : cs.length = q := by rw [hcsl, List.length_take]; omega
  have hsrc : ∀ j v, cs[j]? = some v → w.cell? ((⟨S, 0, none⟩ : Addr).add j) = some v := by
    intro j v hj
    have e : ((⟨S, 0, none⟩ : Addr).add j) = ⟨S, j, none⟩ := by
      unfold Addr.add
      by_cases h : j = 0 <;> simp [h]
    rw [e]
    refine hnews w rfl j v ?_
    rw [hcsl, List.getElem?_take] at hj
    split at hj
    · exact hj
    · cases hj
  have hone1 : ∀ v ∈ cs, v.oneCell' = true := fun v hv => hone v (by rw [hcsl] at hv; exact List.mem_of_mem_take hv)
  have hone2 : ∀ v ∈ news.drop q, v.oneCell' = true := fun v hv => hone v (List.mem_of_mem_drop hv)
  have i1 : (at_ : Int) ≤ (len : Int) := by omega
  have i2 : (0 : Int) ≤ (at_ : Int) := by omega
  have i3 : ¬ cb ≤ at_ := by omega
  have hpart : putL xs at_ cs ++ news.drop q = putL xs at_ news := by
    rw [hcsl, hq, ← hxl]
    exact putL_past (by omega) (by omega)
  have hdl : (news.drop q).length = k - q := by rw [List.length_drop, hk]
  have hqk : q < k := by omega
  have hq0 : 0 < q := by omega
  have HN := Lib.hid hnews
  have HO := Lib.hid hone1
  have HO2 := Lib.hid hone2
  have HX := Lib.hid hX
  have HB := Lib.hid hB
  have HG := Lib.hid hg
  have HK := Lib.hid hk
  have HCS := Lib.hid hcs
  have HAT := Lib.hid hat
  have HQ := Lib.hid hq
  have HCL := Lib.hid hcl
  have HSRC := Lib.hid hsrc
  have HPART := Lib.hid hpart
  have HDL := Lib.hid hdl
  have HXL := Lib.hid hxl
  clear hnews hone hone1 hone2 hX hB hg hk hcs hat hq hcl hcsl hsrc hpart hdl hxl
  go_enter Try.func59, Try.ntmps59
  go_upto_region 1 with (refine wpList_copy_own (o := ⟨some 14, _, _, _, _, _⟩) rfl (.tmp 12) (.tmp 13) 45 45 rfl 5 Try.underlying45 size5 g at_ (len - at_) (cb - at_) ⟨S, 0, none⟩ k k rfl rfl cur 5 HG.out cs (by rw [HCL.out, HQ.out]; have := HQ.out; simp [Nat.min_def]; omega) HSRC.out (by rw [HCL.out, HCS.out]; have := HQ.out; omega) HO.out ?_)
  obtain ⟨L, hL⟩ : ∃ L, L = (cur.toList.take at_ ++ (cs ++ cur.toList.drop (at_ + cs.length))).toArray := ⟨_, rfl⟩
  rw [← hL]
  have hX2 : (w.setRow g L).heap[X]? = some (.cells #[.slice (some ⟨g, 0, none⟩) len cb, lv] 85 (0, 0)) := by rw [setRow_other w g X L hneX]; exact HX.out
  have hB2 : (w.setRow g L).ownsRow B 5 1 (.slice (some ⟨g, 0, none⟩) len cb) len (putL xs at_ cs) := by rw [hL]; exact own_over HB.out HG.out (by rw [HCL.out, HQ.out]; have := HAT.out; omega)
  have hS2 : (w.setRow g L).heap[S]? = w.heap[S]? := setRow_other w g S L hSg
  have hcell2 : ∀ j u, (news.drop q)[j]? = some u → (w.setRow g L).drew.cell? ((⟨S, q, none⟩ : Addr).add j) = some u := by
    intro j u hj
    have e : ((⟨S, q, none⟩ : Addr).add j) = ⟨S, q + j, none⟩ := by
      unfold Addr.add
      by_cases h : j = 0 <;> simp [h]
    rw [e]
    exact HN.out (w.setRow g L).drew hS2 (q + j) u (by rw [List.getElem?_drop] at hj; exact hj)
  have hneB : some X ≠ (Value.slice (some ⟨g, 0, none⟩) len cb).ownBlock := own_ne hB2 hX2 (by simp)
  have hsz2 : (w.setRow g L).heap.size = w.heap.size := by simp [World.setRow]
  have HL := Lib.hid hL
  have HX2 := Lib.hid hX2
  have HB2 := Lib.hid hB2
  have HC2 := Lib.hid hcell2
  have HE := Lib.hid hneB
  have HSZ := Lib.hid hsz2
  have d0 : (w.setRow g L).cell? ⟨X, 0, none⟩ = some (.slice (some ⟨g, 0, none⟩) len cb) := hb_at hX2 0 rfl
  clear hL hX2 hB2 c0 hS2 hcell2 hneB hsz2
  obtain ⟨i0, hi, hz0, hz1, hz2⟩ := info_parts info5
  rw [HCL.out]
  have i4 : (0 : Int) ≤ (q : Int) := by omega
  have i5 : (q : Int) ≤ (k : Int) := by omega
  have i6 : ¬ k ≤ q := by omega
  go_region_law (refine step_append_lies _ rfl (.tmp 19) (.tmp 22) 45 rfl B 5 i0 _ 1 1 Try.underlying45 hi hz0 hz1 hz2 rfl (by decide) _ len (putL xs at_ cs) (by simp [Act.eval, Act.put] <;> omega) (own_drewN HB2.out 1) ⟨S, q, none⟩ (k - q) (k - q) (news.drop q) (by simp [Act.eval, Act.put] <;> omega) (by rw [HDL.out]; omega) HC2.out HO2.out (by omega) (by unfold maxLen; omega) (by omega) (by rw [show (w.setRow g L).drew.heap.size = w.heap.size from HSZ.out]; exact hBw) _ rfl ?_; intro g2 cap' w2 hown2 hg2 hat2 hlt2; have hX3 := hb_grown (w := (w.setRow g L).drew) HX2.out hg2 HE.out; have c03 : w2.cell? ⟨X, 0, none⟩ = some (.slice (some ⟨g, 0, none⟩) len cb) := hb_at hX3 0 rfl; have f03 := hb_free hX3 0)
  all_goals
    go_wp2_with fail
    go_end0
    have e1 := hg2.size
    have e2 := (grown_set w2 ⟨X, 0, none⟩ (.slice (some ⟨g2, 0, none⟩) (len + (k - q)) cap')).size
    have e3 : (w.setRow g L).drew.heap.size = w.heap.size := HSZ.out
    have e4 : (putL xs at_ cs ++ news.drop q).length = len + (k - q) := by have := hown2.1; omega
    refine ⟨rfl, ⟨_, hb_set_same hX3 0 _, ?_, hat2.elim (fun h => .inl h.symm) (fun h => .inr ⟨g2, rfl, by omega⟩)⟩, by omega, ⟨hg2.os, hg2.tape, hg2.output⟩, fun j x hj hjb hx => ?_⟩
    · rw [← HPART.out, e4]
      exact hown2.kept (grown_set _ _ _) (.inr fun e => own_ne hown2 hX3 (by simp) e.symm)
    · refine hb_set_other (hb_grown (w := (w.setRow g L).drew) ?_ hg2 hjb) _ hj
      show (w.setRow g L).heap[j]? = some x
      rw [setRow_other w g j L (fun e => hjb (by rw [e]; rfl))]
      exact hx
end Go.Proofs.Ytmfphnhdahaooaa
