/- The texts Gz, Ha, Hb, Hc, Hd, one behind the other. -/
import Derived.Test.YtmfphnhdahaooaaM22
import Derived.Test.YtmfphnhdahaooaaM23
import Derived.Test.YtmfphnhdahaooaaM21
import Derived.Test.YtmfphnhdahaooaaM14
set_option linter.unusedSimpArgs false
set_option linter.unusedVariables false
/- left: the walk. -/
namespace Go.Proofs.Ytmfphnhdahaooaa
open Go.RowKit Go.Maps

theorem make_bytes2 (k : Nat) (w : World) (hk : k ≤ 1048576) : (Instr.makeSlice 45 (.int .i64 k) (.int .i64 k)).run Try.prog w = .ok (.slice (some ⟨w.heap.size, 0, none⟩) k k) (w.alloc (.cells (List.replicate k zb).toArray 5)) := by
  obtain ⟨i0, hi, hz0, hz1, hz2⟩ := info_parts info5
  have h := run_makeSlice (P := Try.prog) (w := w) 45 5 i0 (.int .u8 0) Try.underlying45 hi hz0 .i64 .i64 k k (by omega) (Int.le_refl _) (by rw [hz1]; simp; omega) (by rw [hz2]; omega) (by omega)
  rw [hz1, Int.toNat_natCast, Nat.mul_one, made_zeros] at h
  exact h

def LeftP (l : List Value) (w : World) (e : Ending) (w' : World) : Prop := ∃ v, e = .returned v ∧ NewRow v l.length l w w'

set_option maxRecDepth 100000 in
set_option maxHeartbeats 4000000 in
theorem left_any {w : World} {B X K n : Nat} {f : Fil} {g : ByteArray → Int → Bool} (hf : FilOk w B X f) (hK : KSet w K n g) (s : ByteArray) (hs : s.size ≤ maxLen) (long : Bool) (size : Nat) (hsize : size = if long = true then f.xs.length else f.ls.length) :
    Calls Try.prog 52 #[.pointer (some ⟨X, 0, none⟩), .string s, .bool long, .map (some K)] w (LeftP (stage (fun i => g s (i : Int)) f.xs f.ls size (sz size)) w) := by
  obtain ⟨ao, c, hbv, hlc⟩ := own_sl hf.now
  obtain ⟨lo, lc, hlv, hllc⟩ := own_sl hf.lasts
  obtain ⟨bv, lv, xs, ls⟩ := f
  dsimp only at hbv hlc hlv hllc hsize ⊢
  subst hbv hlv
  have hx1 : xs.length ≤ 1048576 := hf.small.1
  have hx2 : ls.length ≤ 1048576 := hf.small.2
  have hsz : size ≤ 1048576 := by rw [hsize]; split <;> omega
  have x0 : w.cell? ⟨X, 0, none⟩ = some (.slice ao xs.length c) := hb_at hf.block 0 rfl
  have x1 : w.cell? ⟨X, 1, none⟩ = some (.slice lo ls.length lc) := hb_at hf.block 1 rfl
  obtain ⟨kp, hkp⟩ : ∃ kp : Nat → Bool, kp = fun i : Nat => g s (i : Int) := ⟨_, rfl⟩
  rw [← hkp]
  have HF := Lib.hid hf
  have HK := Lib.hid hK
  have HL := Lib.hid hs
  have HKP := Lib.hid hkp
  have hmk := fun W => make_bytes2 size W hsz
  have hXl := hb_lt hf.block
  have hKl := hK.lt
  have hsize2 : (if long = true then (xs.length : Int) else (ls.length : Int)) = (size : Int) := by rw [hsize]; split <;> rfl
  clear hf hK hs hkp
  have HS2 := Lib.hid hsize
  clear hsize hsize2
  go_enter Try.func52, Try.ntmps52
  go_upto_if 21 with (fail)
  go_cut [9] (fun v wx => v = .int .i64 (size : Nat) ∧ wx = w)
  case first =>
    cases long with
    | true =>
      have e : size = xs.length := by simpa using HS2.out
      have HE := Lib.hid e
      clear e
      go_wp2_with fail
      go_meet
      exact ⟨by rw [HE.out], rfl⟩
    | false =>
      have e : size = ls.length := by simpa using HS2.out
      have HE := Lib.hid e
      clear e
      go_wp2_with fail
      go_meet
      exact ⟨by rw [HE.out], rfl⟩
  case rest =>
    obtain ⟨rfl, hwc⟩ := hcut
    have hwc2 : wc = w := hwc
    subst hwc2
    go_upto_region 6 with (first
      | ((go_at_call 53; with_reducible refine (sectors_any _ (by omega) _).mono ?_); rintro e w' ⟨rfl, rfl⟩)
      | go_in)
    obtain ⟨Q, hQ⟩ : ∃ Q : Nat, Q = (size + 511) / 512 := ⟨_, rfl⟩
    have eQ : ((size : Int) + 511) / 512 = (Q : Int) := by omega
    rw [eQ]
    have HQ := Lib.hid hQ
    have hQ1 : Q ≤ 2048 := by omega
    clear eQ hQ hmk
    go_loopw [31] (fun i wr => ∃ q : Nat, q ≤ Q ∧ i = .int .i64 q ∧ Hid (wr.heap[wc.heap.size]? = some (.cells (stage kp xs ls size q).toArray 5 (0, 0))) ∧ Hid (Below wc.heap.size wc wr)) (fun i _ => Q - (intOf i).toNat)
    case atStart =>
      refine ⟨0, Nat.zero_le _, rfl, Lib.hid ?_, Lib.hid (below1 _ _)⟩
      rw [stage_zero, show (List.replicate size zb).toArray = Array.replicate size zb by simp]
      exact heap_alloc_new wc _
    case round =>
      obtain ⟨q, hq, rfl, HO, HBel⟩ := hrel
      by_cases hlt : q < Q
      · have hq5 : 512 * q < size := by have := HQ.out; omega
        have y0 : wr.cell? ⟨X, 0, none⟩ = some (.slice ao xs.length c) := by rw [HBel.out.cell (p := ⟨X, 0, none⟩) hXl]; exact x0
        have y1 : wr.cell? ⟨X, 1, none⟩ = some (.slice lo ls.length lc) := by rw [HBel.out.cell (p := ⟨X, 1, none⟩) hXl]; exact x1
        have hXb : wr.heap[X]? = some (.cells #[.slice ao xs.length c, .slice lo ls.length lc] 85 (0, 0)) := hb_below HF.out.block HBel.out hXl
        have y0a : ∀ o, (wr.alloc o).cell? ⟨X, 0, none⟩ = some (.slice ao xs.length c) := fun o => hb_at (hb_alloc hXb o) 0 rfl
        have HXB := Lib.hid hXb
        clear hXb
        have hks : KSet wr K n g := HK.out.kept fun x hx => hb_below hx HBel.out hKl
        have HKS := Lib.hid hks
        have hrr : g s (q : Int) = kp q := by rw [HKP.out]
        have HRR := Lib.hid hrr
        clear hks hrr
        cases hkq : kp q with
        | true =>
          rw [hkq] at HRR
          have hif : (if kp q = true then xs else ls) = xs := by rw [hkq]; rfl
          have HIF := Lib.hid hif
          have HKQ := Lib.hid hkq
          clear hkq hif
          by_cases hln : q * 512 < xs.length
          · have l1 : (q : Int) * 512 < (xs.length : Int) := by omega
            obtain ⟨gx, hao, cur, hgb, hcx, hcl⟩ : ∃ gx, ao = some ⟨gx, 0, none⟩ ∧ ∃ cur, wc.heap[gx]? = some (.cells cur 5 (0, 0)) ∧ cur.toList.take xs.length = xs ∧ cur.size = c := by
              rcases HF.out.now.2 with ⟨e, h0⟩ | ⟨g2, cap, cur, e, _, hb, _, _, hs, hx⟩
              · exact absurd h0 (by show xs.length ≠ 0; omega)
              · simp at e
                exact ⟨g2, e.1, cur, hb, by simpa using hx, by rw [hs, e.2, Nat.mul_one]⟩
            subst hao
            have p1 : IntKind.i64.wrap ((q : Int) * 512 + 512) = (q : Int) * 512 + 512 := IntWalk.i64_in _ (by omega)
            have p2 : (0 : Int) ≤ (q : Int) * 512 := by omega
            have p3 : (q : Int) * 512 ≤ (size : Int) := by omega
            have p4 : ¬ c ≤ q * 512 := by omega
            have p5 : ¬ size = q * 512 := by omega
            have p7 : (q : Int) * 512 ≤ (xs.length : Int) := by omega
            have p8 : ¬ c = q * 512 := by omega
            have tn : ((q : Int) * 512).toNat = q * 512 := by omega
            have hsrc : ∀ (o : Obj) (j : Nat) (v : Value), (((xs.drop (512 * q)).take (min (512 * q + 512) size - 512 * q)))[j]? = some v → (wr.alloc o).drew.cell? ((⟨gx, q * 512, none⟩ : Addr).add j) = some v := by
              intro o j v hj
              have e : ((⟨gx, q * 512, none⟩ : Addr).add j) = ⟨gx, q * 512 + j, none⟩ := by
                unfold Addr.add
                by_cases h : j = 0 <;> simp [h]
              rw [e]
              refine hb_at (w := (wr.alloc o).drew) (hb_alloc (hb_below hgb HBel.out (hb_lt hgb)) o) _ ?_
              rw [List.getElem?_take] at hj
              split at hj
              · rw [List.getElem?_drop, ← hcx, List.getElem?_take] at hj
                split at hj
                · rw [Nat.mul_comm q 512]
                  simpa using hj
                · cases hj
              · cases hj
            have HSRC := Lib.hid hsrc
            have hone : ∀ v ∈ ((xs.drop (512 * q)).take (min (512 * q + 512) size - 512 * q)), v.oneCell' = true := fun v hv => HF.out.bytes.1.cells v (List.mem_of_mem_drop (List.mem_of_mem_take hv))
            have HONE := Lib.hid hone
            clear hsrc hone hgb hcx hcl
            rcases Nat.lt_or_ge size (q * 512 + 512) with hmn | hmn
            · have m1 : (size : Int) < (q : Int) * 512 + 512 := by omega
              have m2 : ¬ (q : Int) * 512 + 512 ≤ (size : Int) := by omega
              have mm : min ((q : Int) * 512 + 512) (size : Int) = (size : Int) := by omega
              have mx : max (size : Int) 0 = (size : Int) := by omega
              go_upto_region 14 with (first
                | (at_lookup; refine wpList_ks_look _ rfl _ _ rfl rfl HKS.out s (q : Int) rfl HL.out (wf_nat q (by omega)) true HRR.out ?_)
                | go_in)
              have k1 : ((xs.drop (512 * q)).take (min (512 * q + 512) size - 512 * q)).length = Nat.min (xs.length - q * 512) (size - q * 512) := by
                rw [List.length_take, List.length_drop]
                show min (min (512 * q + 512) size - 512 * q) (xs.length - 512 * q) = min (xs.length - q * 512) (size - q * 512)
                omega
              have K1 := Lib.hid k1
              clear k1
              go_region_law (refine step_copy_splice rfl (.tmp 63) (.tmp 66) 45 45 rfl 5 Try.underlying45 size5 (some ⟨wc.heap.size, q * 512, none⟩) (some ⟨gx, q * 512, none⟩) (size - q * 512) (size - q * 512) (xs.length - q * 512) (c - q * 512) (by simp [Act.eval, Act.put] <;> omega) (by simp [Act.eval, Act.put] <;> omega) wc.heap.size (q * 512) (stage kp xs ls size q) 5 (hb_alloc HO.out _) ((xs.drop (512 * q)).take (min (512 * q + 512) size - 512 * q)) K1.out (fun _ => ⟨rfl, _, rfl, HSRC.out _⟩) (by have := K1.out; rw [stage_len, this]; simp only [Nat.min_def]; split <;> omega) HONE.out wc.heap.size wc (HBel.out.alloc HBel.out.size _).drew (Nat.le_refl _) ?_; intro w4 hO4 hB4)
              all_goals
                have HO4 := Lib.hid hO4.out
                have HB4 := Lib.hid hB4
                clear hO4 hB4
                go_wp2_with fail
                refine ⟨⟨q + 1, by omega, by go_num, Lib.hid ?_, Lib.hid HB4.out⟩, by simp [intOf]; omega⟩
                have e := stage_copy (kp := kp) (xs := xs) (ls := ls) hq5 (by rw [HIF.out]; omega)
                rw [HIF.out, Nat.mul_comm 512 q] at e
                have e2 := HO4.out
                rw [Nat.mul_comm 512 q] at e2
                rw [← e]
                exact e2
            · have m1 : ¬ (size : Int) < (q : Int) * 512 + 512 := by omega
              have m2 : (q : Int) * 512 + 512 ≤ (size : Int) := by omega
              have mm : min ((q : Int) * 512 + 512) (size : Int) = (q : Int) * 512 + 512 := by omega
              have mx : max ((q : Int) * 512 + 512) 0 = (q : Int) * 512 + 512 := by omega
              have p9 : (0 : Int) ≤ (q : Int) * 512 + 512 := by omega
              have p10 : (q : Int) * 512 ≤ (q : Int) * 512 + 512 := by omega
              have tn2 : ((q : Int) * 512 + 512).toNat = q * 512 + 512 := by omega
              go_upto_region 14 with (first
                | (at_lookup; refine wpList_ks_look _ rfl _ _ rfl rfl HKS.out s (q : Int) rfl HL.out (wf_nat q (by omega)) true HRR.out ?_)
                | go_in)
              have k1 : ((xs.drop (512 * q)).take (min (512 * q + 512) size - 512 * q)).length = Nat.min (xs.length - q * 512) ((q * 512 + 512) - q * 512) := by
                rw [List.length_take, List.length_drop]
                show min (min (512 * q + 512) size - 512 * q) (xs.length - 512 * q) = min (xs.length - q * 512) ((q * 512 + 512) - q * 512)
                omega
              have K1 := Lib.hid k1
              clear k1
              go_region_law (refine step_copy_splice rfl (.tmp 63) (.tmp 66) 45 45 rfl 5 Try.underlying45 size5 (some ⟨wc.heap.size, q * 512, none⟩) (some ⟨gx, q * 512, none⟩) ((q * 512 + 512) - q * 512) (size - q * 512) (xs.length - q * 512) (c - q * 512) (by simp [Act.eval, Act.put] <;> omega) (by simp [Act.eval, Act.put] <;> omega) wc.heap.size (q * 512) (stage kp xs ls size q) 5 (hb_alloc HO.out _) ((xs.drop (512 * q)).take (min (512 * q + 512) size - 512 * q)) K1.out (fun _ => ⟨rfl, _, rfl, HSRC.out _⟩) (by have := K1.out; rw [stage_len, this]; simp only [Nat.min_def]; split <;> omega) HONE.out wc.heap.size wc (HBel.out.alloc HBel.out.size _).drew (Nat.le_refl _) ?_; intro w4 hO4 hB4)
              all_goals
                have HO4 := Lib.hid hO4.out
                have HB4 := Lib.hid hB4
                clear hO4 hB4
                go_wp2_with fail
                refine ⟨⟨q + 1, by omega, by go_num, Lib.hid ?_, Lib.hid HB4.out⟩, by simp [intOf]; omega⟩
                have e := stage_copy (kp := kp) (xs := xs) (ls := ls) hq5 (by rw [HIF.out]; omega)
                rw [HIF.out, Nat.mul_comm 512 q] at e
                have e2 := HO4.out
                rw [Nat.mul_comm 512 q] at e2
                rw [← e]
                exact e2
          · have l1 : ¬ (q : Int) * 512 < (xs.length : Int) := by omega
            have HLN := Lib.hid hln
            clear hln
            go_wp2_with (first
              | (at_lookup; refine wpList_ks_look _ rfl _ _ rfl rfl HKS.out s (q : Int) rfl HL.out (wf_nat q (by omega)) true HRR.out ?_)
              | go_in)
            refine ⟨⟨q + 1, by omega, by go_num, Lib.hid ?_, Lib.hid ?_⟩, by simp [intOf]; omega⟩
            · rw [stage_none (by rw [HIF.out]; have := HLN.out; omega)]
              exact hb_alloc HO.out _
            · exact HBel.out.alloc HBel.out.size _
        | false =>
          rw [hkq] at HRR
          have hif : (if kp q = true then xs else ls) = ls := by rw [hkq]; rfl
          have HIF := Lib.hid hif
          have HKQ := Lib.hid hkq
          clear hkq hif
          by_cases hln : q * 512 < ls.length
          · have l1 : (q : Int) * 512 < (ls.length : Int) := by omega
            obtain ⟨gx, hao, cur, hgb, hcx, hcl⟩ : ∃ gx, lo = some ⟨gx, 0, none⟩ ∧ ∃ cur, wc.heap[gx]? = some (.cells cur 5 (0, 0)) ∧ cur.toList.take ls.length = ls ∧ cur.size = lc := by
              rcases HF.out.lasts.2 with ⟨e, h0⟩ | ⟨g2, cap, cur, e, _, hb, _, _, hs, hx⟩
              · exact absurd h0 (by show ls.length ≠ 0; omega)
              · simp at e
                exact ⟨g2, e.1, cur, hb, by simpa using hx, by rw [hs, e.2, Nat.mul_one]⟩
            subst hao
            have p1 : IntKind.i64.wrap ((q : Int) * 512 + 512) = (q : Int) * 512 + 512 := IntWalk.i64_in _ (by omega)
            have p2 : (0 : Int) ≤ (q : Int) * 512 := by omega
            have p3 : (q : Int) * 512 ≤ (size : Int) := by omega
            have p4 : ¬ lc ≤ q * 512 := by omega
            have p5 : ¬ size = q * 512 := by omega
            have p7 : (q : Int) * 512 ≤ (ls.length : Int) := by omega
            have p8 : ¬ lc = q * 512 := by omega
            have tn : ((q : Int) * 512).toNat = q * 512 := by omega
            have hsrc : ∀ (o : Obj) (j : Nat) (v : Value), (((ls.drop (512 * q)).take (min (512 * q + 512) size - 512 * q)))[j]? = some v → (wr.alloc o).drew.cell? ((⟨gx, q * 512, none⟩ : Addr).add j) = some v := by
              intro o j v hj
              have e : ((⟨gx, q * 512, none⟩ : Addr).add j) = ⟨gx, q * 512 + j, none⟩ := by
                unfold Addr.add
                by_cases h : j = 0 <;> simp [h]
              rw [e]
              refine hb_at (w := (wr.alloc o).drew) (hb_alloc (hb_below hgb HBel.out (hb_lt hgb)) o) _ ?_
              rw [List.getElem?_take] at hj
              split at hj
              · rw [List.getElem?_drop, ← hcx, List.getElem?_take] at hj
                split at hj
                · rw [Nat.mul_comm q 512]
                  simpa using hj
                · cases hj
              · cases hj
            have HSRC := Lib.hid hsrc
            have hone : ∀ v ∈ ((ls.drop (512 * q)).take (min (512 * q + 512) size - 512 * q)), v.oneCell' = true := fun v hv => HF.out.bytes.2.cells v (List.mem_of_mem_drop (List.mem_of_mem_take hv))
            have HONE := Lib.hid hone
            clear hsrc hone hgb hcx hcl
            rcases Nat.lt_or_ge size (q * 512 + 512) with hmn | hmn
            · have m1 : (size : Int) < (q : Int) * 512 + 512 := by omega
              have m2 : ¬ (q : Int) * 512 + 512 ≤ (size : Int) := by omega
              have mm : min ((q : Int) * 512 + 512) (size : Int) = (size : Int) := by omega
              have mx : max (size : Int) 0 = (size : Int) := by omega
              go_upto_region 14 with (first
                | (at_lookup; refine wpList_ks_look _ rfl _ _ rfl rfl HKS.out s (q : Int) rfl HL.out (wf_nat q (by omega)) false HRR.out ?_)
                | go_in)
              have k1 : ((ls.drop (512 * q)).take (min (512 * q + 512) size - 512 * q)).length = Nat.min (ls.length - q * 512) (size - q * 512) := by
                rw [List.length_take, List.length_drop]
                show min (min (512 * q + 512) size - 512 * q) (ls.length - 512 * q) = min (ls.length - q * 512) (size - q * 512)
                omega
              have K1 := Lib.hid k1
              clear k1
              go_region_law (refine step_copy_splice rfl (.tmp 63) (.tmp 66) 45 45 rfl 5 Try.underlying45 size5 (some ⟨wc.heap.size, q * 512, none⟩) (some ⟨gx, q * 512, none⟩) (size - q * 512) (size - q * 512) (ls.length - q * 512) (lc - q * 512) (by simp [Act.eval, Act.put] <;> omega) (by simp [Act.eval, Act.put] <;> omega) wc.heap.size (q * 512) (stage kp xs ls size q) 5 (hb_alloc HO.out _) ((ls.drop (512 * q)).take (min (512 * q + 512) size - 512 * q)) K1.out (fun _ => ⟨rfl, _, rfl, HSRC.out _⟩) (by have := K1.out; rw [stage_len, this]; simp only [Nat.min_def]; split <;> omega) HONE.out wc.heap.size wc (HBel.out.alloc HBel.out.size _).drew (Nat.le_refl _) ?_; intro w4 hO4 hB4)
              all_goals
                have HO4 := Lib.hid hO4.out
                have HB4 := Lib.hid hB4
                clear hO4 hB4
                go_wp2_with fail
                refine ⟨⟨q + 1, by omega, by go_num, Lib.hid ?_, Lib.hid HB4.out⟩, by simp [intOf]; omega⟩
                have e := stage_copy (kp := kp) (xs := xs) (ls := ls) hq5 (by rw [HIF.out]; omega)
                rw [HIF.out, Nat.mul_comm 512 q] at e
                have e2 := HO4.out
                rw [Nat.mul_comm 512 q] at e2
                rw [← e]
                exact e2
            · have m1 : ¬ (size : Int) < (q : Int) * 512 + 512 := by omega
              have m2 : (q : Int) * 512 + 512 ≤ (size : Int) := by omega
              have mm : min ((q : Int) * 512 + 512) (size : Int) = (q : Int) * 512 + 512 := by omega
              have mx : max ((q : Int) * 512 + 512) 0 = (q : Int) * 512 + 512 := by omega
              have p9 : (0 : Int) ≤ (q : Int) * 512 + 512 := by omega
              have p10 : (q : Int) * 512 ≤ (q : Int) * 512 + 512 := by omega
              have tn2 : ((q : Int) * 512 + 512).toNat = q * 512 + 512 := by omega
              go_upto_region 14 with (first
                | (at_lookup; refine wpList_ks_look _ rfl _ _ rfl rfl HKS.out s (q : Int) rfl HL.out (wf_nat q (by omega)) false HRR.out ?_)
                | go_in)
              have k1 : ((ls.drop (512 * q)).take (min (512 * q + 512) size - 512 * q)).length = Nat.min (ls.length - q * 512) ((q * 512 + 512) - q * 512) := by
                rw [List.length_take, List.length_drop]
                show min (min (512 * q + 512) size - 512 * q) (ls.length - 512 * q) = min (ls.length - q * 512) ((q * 512 + 512) - q * 512)
                omega
              have K1 := Lib.hid k1
              clear k1
              go_region_law (refine step_copy_splice rfl (.tmp 63) (.tmp 66) 45 45 rfl 5 Try.underlying45 size5 (some ⟨wc.heap.size, q * 512, none⟩) (some ⟨gx, q * 512, none⟩) ((q * 512 + 512) - q * 512) (size - q * 512) (ls.length - q * 512) (lc - q * 512) (by simp [Act.eval, Act.put] <;> omega) (by simp [Act.eval, Act.put] <;> omega) wc.heap.size (q * 512) (stage kp xs ls size q) 5 (hb_alloc HO.out _) ((ls.drop (512 * q)).take (min (512 * q + 512) size - 512 * q)) K1.out (fun _ => ⟨rfl, _, rfl, HSRC.out _⟩) (by have := K1.out; rw [stage_len, this]; simp only [Nat.min_def]; split <;> omega) HONE.out wc.heap.size wc (HBel.out.alloc HBel.out.size _).drew (Nat.le_refl _) ?_; intro w4 hO4 hB4)
              all_goals
                have HO4 := Lib.hid hO4.out
                have HB4 := Lib.hid hB4
                clear hO4 hB4
                go_wp2_with fail
                refine ⟨⟨q + 1, by omega, by go_num, Lib.hid ?_, Lib.hid HB4.out⟩, by simp [intOf]; omega⟩
                have e := stage_copy (kp := kp) (xs := xs) (ls := ls) hq5 (by rw [HIF.out]; omega)
                rw [HIF.out, Nat.mul_comm 512 q] at e
                have e2 := HO4.out
                rw [Nat.mul_comm 512 q] at e2
                rw [← e]
                exact e2
          · have l1 : ¬ (q : Int) * 512 < (ls.length : Int) := by omega
            have HLN := Lib.hid hln
            clear hln
            go_wp2_with (first
              | (at_lookup; refine wpList_ks_look _ rfl _ _ rfl rfl HKS.out s (q : Int) rfl HL.out (wf_nat q (by omega)) false HRR.out ?_)
              | go_in)
            refine ⟨⟨q + 1, by omega, by go_num, Lib.hid ?_, Lib.hid ?_⟩, by simp [intOf]; omega⟩
            · rw [stage_none (by rw [HIF.out]; have := HLN.out; omega)]
              exact hb_alloc HO.out _
            · exact HBel.out.alloc HBel.out.size _
      · obtain rfl : q = Q := by omega
        go_wp2
        go_ret
        have hq6 : q = sz size := HQ.out
        rw [← hq6]
        refine ⟨.slice (some ⟨wc.heap.size, 0, none⟩) size size, rfl, ?_, HBel.out⟩
        have hl := stage_len kp xs ls size q
        rw [hl]
        exact ⟨by rw [hl, Nat.mul_one], .inr ⟨wc.heap.size, size, _, rfl, Nat.le_refl _, HO.out, Nat.le_refl _, by unfold maxLen; omega, by simp [hl], by rw [Nat.mul_one]; exact List.take_of_length_le (by simp [hl])⟩⟩
end Go.Proofs.Ytmfphnhdahaooaa
/- The files that are told to survive, by their names. -/
namespace Go.Proofs.Ytmfphnhdahaooaa
open Go.RowKit Go.Maps

structure Sv where
  name : ByteArray
  ao : Option Addr
  c : Nat
  zs : List Int
  long : Bool
def Sv.val (x : Sv) : Value := .agg #[.string x.name, .slice x.ao x.zs.length x.c, .bool x.long]
def sv0 : Value := .agg #[.string ⟨#[]⟩, .slice none 0 0, .bool false]
def svL (vals : List Sv) : List Value := sv0 :: vals.map Sv.val

open Classical in
noncomputable def svR (vals : List Sv) (v : Value) : Option (DataW Unit × List MemPlace) :=
  if h : ∃ i : Nat, (svL vals)[i]? = some v then some (.lit (.int .i64 ((Classical.choose h : Nat) : Int)), []) else none

theorem svR_some {vals : List Sv} {v : Value} (h : v ∈ svL vals) : ∃ d, svR vals v = some (d, []) := by
  obtain ⟨i, hi⟩ := List.getElem?_of_mem h
  have h2 : ∃ i : Nat, (svL vals)[i]? = some v := ⟨i, hi⟩
  exact ⟨_, by unfold svR; rw [dif_pos h2]⟩
theorem svR_inj {vals : List Sv} {v u : Value} {d : DataW Unit} {ps qs : List MemPlace} (hv : svR vals v = some (d, ps)) (hu : svR vals u = some (d, qs)) : v = u := by
  unfold svR at hv hu
  split at hv
  · rename_i h1
    split at hu
    · rename_i h2
      simp at hv hu
      have e : Classical.choose h1 = Classical.choose h2 := by
        have := hv.1.trans hu.1.symm
        simp at this
        omega
      have a := Classical.choose_spec h1
      have b := Classical.choose_spec h2
      rw [e, b] at a
      exact (Option.some.inj a).symm
    · cases hu
  · cases hv
theorem svR_mem {vals : List Sv} {v : Value} {y : DataW Unit × List MemPlace} (h : svR vals v = some y) : v ∈ svL vals := by
  unfold svR at h
  split at h
  · rename_i h1
    exact List.mem_of_getElem? (Classical.choose_spec h1)
  · cases h

def svAt (vals : List Sv) (D : DataW Unit) (s : ByteArray) (r : Option Sv) : Prop :=
  match r with
  | some x => x ∈ vals ∧ Maps.has D (.string s.data.toList) = true ∧ ∀ z, svR vals x.val = some (D.atKey (.string s.data.toList) z, [])
  | none => Maps.has D (.string s.data.toList) = false

def TMap (vals : List Sv) (w : World) (M n : Nat) (g : ByteArray → Option Sv) : Prop := ∃ D : DataW Unit, w.ownsMap Try.prog 9 (svR vals) M n D ∧ ∀ s, svAt vals D s (g s)

def svV (r : Option Sv) : Value := match r with | some x => x.val | none => sv0
def upS (g : ByteArray → Option Sv) (s : ByteArray) (r : Option Sv) : ByteArray → Option Sv := fun t => if t = s then r else g t

section
variable {vals : List Sv} {w w' : World} {M n : Nat} {g : ByteArray → Option Sv}
theorem TMap.lt (h : TMap vals w M n g) : M < w.heap.size := h.elim fun _ h => h.1.lt
theorem TMap.same (h : TMap vals w M n g) (hb : w'.heap[M]? = w.heap[M]?) : TMap vals w' M n g := by
  obtain ⟨D, ⟨es, clock, h1, h2⟩, h3⟩ := h
  exact ⟨D, ⟨es, clock, hb.trans h1, h2⟩, h3⟩
theorem TMap.heap (h : TMap vals w M n g) : ∃ es clock, w.heap[M]? = some (.map es clock) := by
  obtain ⟨D, ⟨es, clock, hb, _⟩, _⟩ := h
  exact ⟨es, clock, hb⟩
theorem TMap.kept (h : TMap vals w M n g) (hk : ∀ x, w.heap[M]? = some x → w'.heap[M]? = some x) : TMap vals w' M n g := by
  obtain ⟨es, clock, hb⟩ := h.heap
  exact h.same ((hk _ hb).trans hb.symm)
theorem TMap.made (vals : List Sv) (w : World) : TMap vals (w.alloc (.map #[] 0)) w.heap.size 0 fun _ => none := ⟨_, World.ownsMap_made w _ _ _, fun _ => rfl⟩

theorem TMap.look (h : TMap vals w M n g) (s : ByteArray) (hs : s.size ≤ maxLen) (r : Option Sv) (hr : g s = r) : (Instr.lookup 91 (.map (some M)) (.string s) true).run Try.prog w = .ok (.tuple #[svV r, .bool r.isSome]) w := by
  obtain ⟨D, hD, hg⟩ := h
  obtain ⟨d0, hd0⟩ := svR_some (vals := vals) (v := sv0) (List.mem_cons_self ..)
  obtain ⟨v, ps, hrun, hv⟩ := hD.look_ok K9 Try.underlying91 (zero58 w) (zd := d0) (zp := []) hd0 (key9 s hs)
  have h1 := hg s
  rw [hr] at h1
  rw [hrun]
  cases r with
  | none =>
    rw [atKey_of_not_has h1] at hv
    rw [svR_inj hv hd0, show Maps.has D (.string s.data.toList) = false from h1]
    rfl
  | some x =>
    rw [svR_inj hv (h1.2.2 d0), h1.2.1]
    rfl

theorem TMap.put (h : TMap vals w M n g) (hn : n < maxLen) (s : ByteArray) (hs : s.size ≤ maxLen) (x : Sv) (hx : x ∈ vals) :
    ∃ w', (Instr.mapUpdate 91 (.map (some M)) (.string s) x.val).run Try.prog w = .ok () w' ∧ TMap vals w' M (n + 1) (upS g s (some x)) ∧ w.mapTurned w' M := by
  obtain ⟨D, hD, hg⟩ := h
  obtain ⟨d, hd⟩ := svR_some (vals := vals) (v := x.val) (List.mem_cons_of_mem _ (List.mem_map_of_mem hx))
  obtain ⟨w', hrun, h1, h2⟩ := hD.store K9 Try.underlying91 hn (val := x.val) (d := d) (ps := []) (key9 s hs) hd
  refine ⟨w', hrun, ⟨_, h1, fun t => ?_⟩, h2⟩
  have hK : WideAt.IsKeyLit (.string s.data.toList) := trivial
  unfold upS
  by_cases e : t = s
  · rw [if_pos e, e]
    exact ⟨hx, has_put_same hD.isMap hK _, fun z => by rw [atKey_put_same hD.isMap hK]; exact hd⟩
  · rw [if_neg e]
    have h3 := hg t
    cases hr : g t with
    | none =>
      rw [hr] at h3
      exact (has_put_other (lit_ne e) _).trans h3
    | some y =>
      rw [hr] at h3
      exact ⟨h3.1, (has_put_other (lit_ne e) _).trans h3.2.1, fun z => by rw [atKey_put_other (lit_ne e)]; exact h3.2.2 z⟩

variable (w) {ops : Array Oper} {rest : List Oper} {o : Oper} {a : Act} {Q : Exit → Act → World → Prop}
theorem wpList_tm_look (hg : o.guard = none) (m x : Operand) (hop : o.op = Op.lookup 91 m x true) (hm : a.eval m = .map (some M)) (h : TMap vals w M n g) (s : ByteArray) (hx : a.eval x = .string s) (hs : s.size ≤ maxLen)
    (r : Option Sv) (hr : g s = r) (res : Value) (he : .tuple #[svV r, .bool r.isSome] = res) (hK : wpList Try.prog ops Q rest (a.put o.dst res) w) : wpList Try.prog ops Q (o :: rest) a w := by
  refine wpList_plain hg fun K' hK' => ?_
  unfold Oper.wp
  simp [execOp, hop, hm, hx, h.look s hs r hr, Result.andThen]
  rw [he]
  exact hK' _ _ hK
theorem wpList_tm_put (hg : o.guard = none) (m x v : Operand) (hop : o.op = Op.mapUpdate 91 m x v) (hm : a.eval m = .map (some M)) (h : TMap vals w M n g) (hn : n < maxLen) (s : ByteArray) (hx : a.eval x = .string s) (hs : s.size ≤ maxLen) (y : Sv) (hy : y ∈ vals) (yv : Value) (hyv : y.val = yv)
    (hv : a.eval v = yv) (hK : ∀ w', TMap vals w' M (n + 1) (upS g s (some y)) → w.mapTurned w' M → wpList Try.prog ops Q rest (a.put o.dst undef) w') : wpList Try.prog ops Q (o :: rest) a w := by
  subst hyv
  refine wpList_plain hg fun K' hK' => ?_
  obtain ⟨w', hrun, h1, h2⟩ := h.put hn s hs y hy
  unfold Oper.wp
  simp [execOp, hop, hm, hx, hv, hrun, Result.andThen]
  exact hK' _ _ (hK w' h1 h2)
end

def firstOf (fl : List Sv) (s : ByteArray) : Option Sv := fl.find? fun x => decide (x.name = s)
theorem first_snoc (fl : List Sv) (x : Sv) : firstOf (fl ++ [x]) = match firstOf fl x.name with
    | some _ => firstOf fl
    | none => upS (firstOf fl) x.name (some x) := by
  funext s
  unfold firstOf
  rw [List.find?_append]
  cases h : fl.find? fun y => decide (y.name = x.name) with
  | some y =>
    cases h2 : fl.find? fun z => decide (z.name = s) with
    | some z => simp [h2]
    | none =>
      have hne : x.name ≠ s := by
        intro e
        rw [e] at h
        rw [h2] at h
        cases h
      simp [h2, hne]
  | none =>
    unfold upS
    by_cases e : s = x.name
    · subst e
      simp [h]
    · cases h2 : fl.find? fun z => decide (z.name = s) with
      | some z => simp [h2, e]
      | none => simp [h2, e, Ne.symm e]
end Go.Proofs.Ytmfphnhdahaooaa
/- firsts: the walk. -/
namespace Go.Proofs.Ytmfphnhdahaooaa
open Go.RowKit Go.Maps

theorem RowI.below {w w' : World} {ao : Option Addr} {zs : List Int} (h : RowI w ao zs) {B : Nat} (hb : Below B w w') (hB : w.heap.size ≤ B) : RowI w' ao zs := by
  intro i z hz
  obtain ⟨h1, b, off, h2, h3⟩ := h i z hz
  refine ⟨h1, b, off, h2, ?_⟩
  rw [hb.cell (p := ⟨b, off + i, none⟩) (Nat.lt_of_lt_of_le (World.block_lt_of_cell? w _ h3) hB)]
  exact h3
/-- More numbers than any slice has. -/
def manyZ : Nat := 1125899906842624
/-- A slice of files that survive, read. -/
def RowS (w : World) (fo : Option Addr) (fl : List Sv) : Prop := ∀ i x, fl[i]? = some x → x.name.size ≤ maxLen ∧ RowI w x.ao x.zs ∧ x.zs.length ≤ manyZ ∧
  ∃ b off, fo = some ⟨b, off, none⟩ ∧ w.cell? ⟨b, off + i * 3, none⟩ = some (.string x.name) ∧ w.cell? ⟨b, off + i * 3 + 1, none⟩ = some (.slice x.ao x.zs.length x.c) ∧ w.cell? ⟨b, off + i * 3 + 2, none⟩ = some (.bool x.long)

def TellP (fl : List Sv) (w : World) (e : Ending) (w' : World) : Prop := ∃ M, e = .returned (.map (some M)) ∧ w.heap.size ≤ M ∧ TMap fl w' M fl.length (firstOf fl) ∧ Below w.heap.size w w'

set_option maxRecDepth 100000 in
set_option maxHeartbeats 4000000 in
theorem firsts_any {w : World} {fo : Option Addr} {fl : List Sv} {c : Nat} (hz : RowS w fo fl) (hl : fl.length ≤ 10000) :
    Calls Try.prog 49 #[.slice fo fl.length c] w (TellP fl w) := by
  have hmm := @run_makeMap Try.prog
  have HZ := Lib.hid hz
  obtain ⟨len, hlen⟩ : ∃ len, len = fl.length := ⟨_, rfl⟩
  rw [← hlen] at hl ⊢
  have HLEN := Lib.hid hlen
  clear hz hlen
  go_enter Try.func49, Try.ntmps49
  go_upto_region 3 with fail
  clear hmm
  go_loopw [11] (fun i wr => ∃ q : Nat, q ≤ len ∧ i = .int .i64 q ∧ Hid (TMap fl wr w.heap.size q (firstOf (fl.take q))) ∧ Hid (Below w.heap.size w wr)) (fun i _ => len - (intOf i).toNat)
  case atStart => exact ⟨0, Nat.zero_le _, rfl, Lib.hid (TMap.made fl w), Lib.hid (below1 w _)⟩
  case round =>
    obtain ⟨q, hq, rfl, HT, HBel⟩ := hrel
    by_cases hlt : q < len
    · obtain ⟨x, hx⟩ : ∃ x, fl[q]? = some x := ⟨_, List.getElem?_eq_getElem (by rw [← HLEN.out]; exact hlt)⟩
      obtain ⟨hsz, hri, hzl, b, off, rfl, d0, d1, d2⟩ := HZ.out q x hx
      have hbl := World.block_lt_of_cell? w _ d0
      have e0 : wr.cell? ⟨b, off + q * 3, none⟩ = some (.string x.name) := by rw [HBel.out.cell (p := ⟨b, off + q * 3, none⟩) hbl]; exact d0
      have e1 : wr.cell? ⟨b, off + q * 3 + 1, none⟩ = some (.slice x.ao x.zs.length x.c) := by rw [HBel.out.cell (p := ⟨b, off + q * 3 + 1, none⟩) hbl]; exact d1
      have e2 : wr.cell? ⟨b, off + q * 3 + 2, none⟩ = some (.bool x.long) := by rw [HBel.out.cell (p := ⟨b, off + q * 3 + 2, none⟩) hbl]; exact d2
      have hxm : x ∈ fl := List.mem_of_getElem? hx
      have hsnoc : firstOf (fl.take (q + 1)) = match firstOf (fl.take q) x.name with
          | some _ => firstOf (fl.take q)
          | none => upS (firstOf (fl.take q)) x.name (some x) := by
        rw [List.take_add_one, hx]
        exact first_snoc (fl.take q) x
      have HSZ := Lib.hid hsz
      have HXM := Lib.hid hxm
      have HSN := Lib.hid hsnoc
      have htk : ∀ o, TMap fl (wr.alloc o) w.heap.size q (firstOf (fl.take q)) := fun o => HT.out.kept fun y hy => hb_alloc hy o
      have htk2 : ∀ o p, TMap fl ((wr.alloc o).alloc p) w.heap.size q (firstOf (fl.take q)) := fun o p => HT.out.kept fun y hy => hb_alloc (hb_alloc hy o) p
      have HTK := Lib.hid htk
      have HTK2 := Lib.hid htk2
      clear hsz hri d0 d1 d2 hx hxm hsnoc htk htk2
      cases hr : firstOf (fl.take q) x.name with
      | some y =>
        rw [hr] at HSN
        have HR := Lib.hid hr
        clear hr
        go_wp2_with (first
          | (at_lookup; refine wpList_tm_look _ rfl _ _ rfl rfl (HTK.out _) x.name rfl HSZ.out (some y) HR.out (.tuple #[.agg #[.string y.name, .slice y.ao y.zs.length y.c, .bool y.long], .bool true]) rfl ?_)
          | go_in)
        refine ⟨⟨q + 1, by omega, by go_num, Lib.hid ?_, Lib.hid ?_⟩, by simp [intOf]; omega⟩
        · rw [HSN.out]
          exact (HTK2.out _ _).elim fun D h => ⟨D, h.1.mono (Nat.le_succ _), h.2⟩
        · have hb := HBel.out.size
          exact (HBel.out.alloc hb _).alloc (by simp; omega) _
      | none =>
        rw [hr] at HSN
        have HR := Lib.hid hr
        clear hr
        go_wp2_with (first
          | (at_lookup; refine wpList_tm_look _ rfl _ _ rfl rfl (HTK.out _) x.name rfl HSZ.out none HR.out (.tuple #[.agg #[.string ⟨#[]⟩, .slice none 0 0, .bool false], .bool false]) rfl ?_)
          | (at_mapUpdate; refine wpList_tm_put _ rfl _ _ _ rfl rfl (HTK2.out _ _) (by unfold maxLen; omega) x.name rfl HSZ.out x HXM.out (.agg #[.string x.name, .slice x.ao x.zs.length x.c, .bool x.long]) rfl rfl ?_; intro w2 hT2 hU2)
          | go_in)
        refine ⟨⟨q + 1, by omega, by go_num, Lib.hid ?_, Lib.hid ?_⟩, by simp [intOf]; omega⟩
        · rw [HSN.out]
          exact hT2
        · have hb := HBel.out.size
          exact below_grown ((HBel.out.alloc hb _).alloc (by simp; omega) _) (turned_grown hU2) (by simp; omega) (Nat.le_refl _)
    · obtain rfl : q = len := by omega
      go_wp2
      go_ret
      have e : fl.take q = fl := List.take_of_length_le (by rw [← HLEN.out]; exact Nat.le_refl _)
      have h2 := HT.out
      rw [e] at h2
      exact ⟨_, rfl, Nat.le_refl _, h2.same rfl |> fun h => by rw [← HLEN.out]; exact h, HBel.out⟩
end Go.Proofs.Ytmfphnhdahaooaa
/- keptOf: the walk. -/
namespace Go.Proofs.Ytmfphnhdahaooaa
open Go.RowKit Go.Maps

def keptSet (g : ByteArray → Option Sv) (s : ByteArray) (i : Int) : Bool := match g s with | some x => decide (i ∈ x.zs) | none => false
/-- .. while some names are still to come. -/
def keptBut (g : ByteArray → Option Sv) (left : Lit → Bool) (s : ByteArray) (i : Int) : Bool := match g s with | some x => !left (.string s.data.toList) && decide (i ∈ x.zs) | none => false
/-- .. and of one some numbers. -/
def keptIn (g : ByteArray → Option Sv) (left : Lit → Bool) (t : ByteArray) (zs : List Int) (s : ByteArray) (i : Int) : Bool := (decide (s = t) && decide (i ∈ zs)) || keptBut g left s i

theorem keptIn_nil (g : ByteArray → Option Sv) (left : Lit → Bool) (t : ByteArray) : keptIn g left t [] = keptBut g left := by
  funext s i
  simp [keptIn]
theorem keptIn_snoc (g : ByteArray → Option Sv) (left : Lit → Bool) (t : ByteArray) (zs : List Int) (z : Int) : (fun s i => (decide (s = t) && i == z) || keptIn g left t zs s i) = keptIn g left t (zs ++ [z]) := by
  funext s i
  unfold keptIn
  by_cases e : s = t
  · by_cases e2 : i = z <;> simp [e, e2]
  · simp [e]
theorem keptIn_all (g : ByteArray → Option Sv) (left : Lit → Bool) (t : ByteArray) (x : Sv) (hx : g t = some x) (hl : left (.string t.data.toList) = true) : keptIn g left t x.zs = keptBut g (fun z => left z && !z.sameKey (.string t.data.toList)) := by
  funext s i
  unfold keptIn keptBut
  by_cases e : s = t
  · subst e
    rw [hx]
    simp [hl, Lit.sameKey]
  · cases hg : g s with
    | none => simp [e]
    | some y =>
      have h1 : (Lit.string s.data.toList).sameKey (.string t.data.toList) = false := by
        simp only [Lit.sameKey]
        rw [beq_eq_false_iff_ne]
        exact fun h => e (name_eq h)
      simp [e, h1]
theorem keptBut_none (g : ByteArray → Option Sv) (left : Lit → Bool) (h : ∀ kl, left kl = false) : keptBut g left = keptSet g := by
  funext s i
  unfold keptBut keptSet
  cases g s <;> simp [h]
theorem keptBut_all (g : ByteArray → Option Sv) (left : Lit → Bool) (h : ∀ s x, g s = some x → left (.string s.data.toList) = true) : keptBut g left = fun _ _ => false := by
  funext s i
  unfold keptBut
  cases hg : g s with
  | none => rfl
  | some x => simp [h s x hg]

theorem sv_form {vals : List Sv} {v : Value} {y : DataW Unit × List MemPlace} (h : svR vals v = some y) : ∃ x : Sv, v = x.val := by
  rcases List.mem_cons.1 (svR_mem h) with rfl | h1
  · exact ⟨⟨⟨#[]⟩, none, 0, [], false⟩, rfl⟩
  · obtain ⟨x, _, rfl⟩ := List.mem_map.1 h1
    exact ⟨x, rfl⟩
theorem str_form {v : Value} {kl : Lit} (h : keyOf Try.prog 9 v = some kl) : ∃ s : ByteArray, v = .string s := by
  cases v <;> simp [keyOf, Try.underlying9, mapKey] at h
  exact ⟨_, rfl⟩
theorem str_key {s : ByteArray} {kl : Lit} (h : keyOf Try.prog 9 (.string s) = some kl) : s.size ≤ maxLen ∧ kl = .string s.data.toList := by
  simp [keyOf, Try.underlying9, mapKey] at h
  exact ⟨h.1, h.2.symm⟩

theorem size_own {w : World} {fl : List Sv} {M n : Nat} {D : DataW Unit} (h : w.ownsMap Try.prog 9 (svR fl) M n D) : Maps.size D ≤ n := by
  obtain ⟨es, clock, _, _, hs, rfl⟩ := h
  have e1 : Maps.size (DataW.map ((es.toList.map (WideElems.rg Try.prog 9 (svR fl))).foldr DataW.insert [])) = es.size := by simp [Maps.size, length_sorted]
  omega
/-- The entry that has come is the map's. -/
theorem sv_entry {fl : List Sv} {g : ByteArray → Option Sv} {D : DataW Unit} (hg : ∀ s, svAt fl D s (g s)) {s : ByteArray} {c : Sv} {y : DataW Unit × List MemPlace} (hh : Maps.has D (.string s.data.toList) = true)
    (hv : svR fl c.val = some y) (hat : ∀ zd, D.atKey (.string s.data.toList) zd = y.1) : ∃ x, g s = some x ∧ x ∈ fl ∧ c.val = x.val := by
  have h := hg s
  cases hr : g s with
  | none => rw [hr] at h; exact absurd hh (by rw [show Maps.has D (.string s.data.toList) = false from h]; simp)
  | some x =>
    rw [hr] at h
    obtain ⟨d, ps⟩ := y
    refine ⟨x, rfl, h.1, svR_inj hv (qs := []) ?_⟩
    rw [h.2.2 d, hat d]

def KeptP (g : ByteArray → Option Sv) (w : World) (e : Ending) (w' : World) : Prop := ∃ M n, e = .returned (.map (some M)) ∧ w.heap.size ≤ M ∧ KSet w' M n (keptSet g) ∧ Below w.heap.size w w'

theorem many_lt : 1000 * manyZ < maxLen := by unfold manyZ maxLen; omega
def KeptR (fl : List Sv) (g : ByteArray → Option Sv) (M n : Nat) (D : DataW Unit) (w wr : World) (left : Lit → Bool) (cnt n2 : Nat) : Prop :=
  wr.ranges Try.prog 9 (svR fl) M (w.heap.size + 1) n D left cnt ∧ (∀ kl, left kl = true → Maps.has D kl = true) ∧ KSet wr w.heap.size n2 (keptBut g left) ∧ n2 + cnt * manyZ ≤ 1000 * manyZ ∧ Below w.heap.size w wr

set_option maxRecDepth 100000 in
set_option maxHeartbeats 8000000 in
theorem kept_any {w : World} {fl : List Sv} {M n : Nat} {g : ByteArray → Option Sv} (h : TMap fl w M n g) (hn : n ≤ 1000) (hz : ∀ x ∈ fl, RowI w x.ao x.zs ∧ x.zs.length ≤ manyZ) :
    Calls Try.prog 50 #[.map (some M)] w (KeptP g w) := by
  have hmm := @run_makeMap Try.prog
  obtain ⟨D, hD, hg⟩ := h
  have hMl := hD.lt
  have hsz0 := size_own hD
  have hD1 : ∀ o, (w.alloc o).ownsMap (H := Unit) Try.prog 9 (svR fl) M n D := fun o => hD.alloc o
  have HD := Lib.hid hD1
  have HG := Lib.hid hg
  have HZ := Lib.hid hz
  clear hg hz hD hD1
  go_enter Try.func50, Try.ntmps50
  go_upto_region 3 with (first
    | (at_range; refine wpList_range_own _ rfl _ 91 rfl 9 58 K9 Try.underlying91 (svR fl) M n D rfl (HD.out _) ?_; intro w0 hrg0 hg0 hs0)
    | go_in)
  go_frame
  rw [size1] at hrg0 hs0 ⊢
  have HR0 := Lib.hid hrg0
  have HG0 := Lib.hid hg0
  clear hmm hrg0 hg0
  go_loopw [11] (fun _ wr => ∃ left cnt n2, Hid (KeptR fl g M n D w wr left cnt n2)) (fun _ wr => wr.rangeLeft M (w.heap.size + 1))
  case atStart =>
    refine ⟨_, _, 0, Lib.hid ⟨HR0.out, fun _ h => h, ?_, by rw [Nat.zero_add]; exact Nat.mul_le_mul_right manyZ (Nat.le_trans hsz0 hn), ?_⟩⟩
    · have e : keptBut g (Maps.has D) = fun _ _ => false := keptBut_all g _ fun s x hx => by
        have h := HG.out s
        rw [hx] at h
        exact h.2.1
      rw [e]
      exact (KSet.made w).kept fun x hx => hb_grown hx HG0.out (by simp)
    · exact (below1 w _).grown HG0.out (by simp) (fun j hj => by cases hj)
  case round =>
    obtain ⟨left, cnt, n2, HR⟩ := hrel
    have HRG := Lib.hid HR.out.1
    have HLS := Lib.hid HR.out.2.1
    have HK := Lib.hid HR.out.2.2.1
    have hnm := HR.out.2.2.2.1
    have HB := Lib.hid HR.out.2.2.2.2
    clear HR
    go_wp2_with (first
      | (at_next; refine wpList_next_ranges _ rfl _ rfl 9 K9 (svR fl) Value.string Sv.val (fun key kl h => str_form h) (fun v y h => sv_form h) M (w.heap.size + 1) n D left cnt rfl HRG.out ?_ ?_)
      | go_in)
    · intro hc0 hl0
      go_wp2
      go_ret
      exact ⟨_, n2, rfl, Nat.le_refl _, by rw [← keptBut_none g left hl0]; exact HK.out, HB.out⟩
    · intro s c kl yd yp w1 cnt1 hkey hlk hv hat hrg1 hlt hg1 hs1 hen
      obtain ⟨hss, rfl⟩ := str_key hkey
      obtain ⟨x, hgx, hxm, hcv⟩ := sv_entry HG.out (HLS.out _ hlk) (y := (yd, yp)) hv hat
      have hcv2 : c.val = .agg #[.string x.name, .slice x.ao x.zs.length x.c, .bool x.long] := hcv
      rw [hcv2] at hen ⊢
      obtain ⟨hri, hzl⟩ := HZ.out x hxm
      have hwr := HB.out.size
      have hw1 : w.heap.size + 2 ≤ w1.heap.size := by have := HRG.out.lt; omega
      have hlt0 : cnt1 < wr.rangeLeft M (w.heap.size + 1) := by rw [HRG.out.left_eq]; exact hlt
      have HK1 : Hid (KSet w1 w.heap.size n2 (keptBut g left)) := HK.out.kept fun y hy => hb_grown hy hg1 (by simp)
      have HB1 : Hid (Below w.heap.size w w1) := below_grown HB.out hg1 hwr (by omega)
      have HR1 := Lib.hid hrg1
      obtain ⟨zs, ao, lz, hzs, hao, hlz⟩ : ∃ zs ao lz, x.zs = zs ∧ x.ao = ao ∧ x.zs.length = lz := ⟨_, _, _, rfl, rfl, rfl⟩
      have hka : keptIn g left s zs = keptBut g (fun z => left z && !z.sameKey (.string s.data.toList)) := by rw [← hzs]; exact keptIn_all g left s x hgx hlk
      have HKA := Lib.hid hka
      rw [hao, hlz] at hen
      rw [hao, hlz]
      rw [hao, hzs] at hri
      rw [hlz] at hzl
      have hzb : lz ≤ 1125899906842624 := by unfold manyZ at hzl; exact hzl
      have hmul : cnt1 * manyZ + manyZ ≤ cnt * manyZ := by
        have h := Nat.mul_le_mul_right manyZ (show cnt1 + 1 ≤ cnt from hlt)
        rw [Nat.add_mul, Nat.one_mul] at h
        exact h
      have hnq : n2 + cnt1 * manyZ + manyZ ≤ 1000 * manyZ := by omega
      have HNQ := Lib.hid hnq
      have HZL := Lib.hid hzl
      clear hmul hnq hzl hnm
      have hlz2 : zs.length = lz := by rw [← hzs]; exact hlz
      have HLZ := Lib.hid hlz2
      have HRI := Lib.hid hri
      have HLT := Lib.hid hlt
      have HLT0 := Lib.hid hlt0
      have HG1 := Lib.hid hg1
      clear hkey hlk hv hat hrg1 hlt hg1 hcv hcv2 hri hzs hao hlz hlz2 hgx hxm hka hlt0 HK HB HRG
      go_upto_region 6 with fail
      have HK2 : Hid (KSet (w1.alloc (.cells #[.string x.name, .slice ao lz x.c, .bool x.long] 58)) w.heap.size (n2 + 0) (keptIn g left s (zs.take 0))) := by
        rw [List.take_zero, keptIn_nil]
        exact HK1.out.kept fun y hy => hb_alloc hy _
      have HR2 := Lib.hid (HR1.out.alloc (.cells #[.string x.name, .slice ao lz x.c, .bool x.long] 58))
      have HB2 : Hid (Below w.heap.size w (w1.alloc (.cells #[.string x.name, .slice ao lz x.c, .bool x.long] 58))) := HB1.out.alloc (by omega) _
      clear hen HK1 HB1 HR1 HG1
      go_loopw [19] (fun i wx => ∃ q : Nat, q ≤ lz ∧ i = .int .i64 q ∧ Hid (KSet wx w.heap.size (n2 + q) (keptIn g left s (zs.take q))) ∧ Hid (wx.ranges Try.prog 9 (svR fl) M (w.heap.size + 1) n D (fun z => left z && !z.sameKey (.string s.data.toList)) cnt1) ∧ Hid (Below w.heap.size w wx)) (fun i _ => lz - (intOf i).toNat)
      case atStart => exact ⟨0, Nat.zero_le _, rfl, HK2, HR2, HB2⟩
      case round =>
        clear HK2 HR2 HB2
        obtain ⟨q, hq, rfl, HK3, HR3, HB3⟩ := hrel
        by_cases hlt : q < lz
        · obtain ⟨z, hzq⟩ : ∃ z, zs[q]? = some z := ⟨_, List.getElem?_eq_getElem (by rw [HLZ.out]; exact hlt)⟩
          obtain ⟨hwf, b, off, rfl, d0⟩ := HRI.out q z hzq
          have hbl := World.block_lt_of_cell? w _ d0
          have e0 : wr.cell? ⟨b, off + q, none⟩ = some (.int .i64 z) := by rw [HB3.out.cell (p := ⟨b, off + q, none⟩) hbl]; exact d0
          have hsn : (fun t j => (decide (t = s) && j == z) || keptIn g left s (zs.take q) t j) = keptIn g left s (zs.take (q + 1)) := by
            rw [List.take_add_one, hzq]
            exact keptIn_snoc g left s (zs.take q) z
          have HSN := Lib.hid hsn
          have HWF := Lib.hid hwf
          have HSS := Lib.hid hss
          have hcn := HLT.out
          have hnl : n2 + q < maxLen := by have h1 := HNQ.out; have h2 := HZL.out; have h3 := many_lt; omega
          clear hsn hwf hss d0 hzq hcn
          go_wp2_with (first
            | (at_mapUpdate; refine wpList_ks_put _ rfl _ _ _ rfl rfl HK3.out hnl s z rfl HSS.out HWF.out rfl ?_; intro w4 hK4 hU4)
            | go_in)
          have hU := turned_grown hU4
          refine ⟨⟨q + 1, by omega, by go_num, Lib.hid ?_, Lib.hid ?_, Lib.hid ?_⟩, by simp [intOf]; omega⟩
          · rw [← HSN.out]
            exact hK4
          · exact HR3.out.kept hU (by simp; omega) (by simp)
          · exact below_grown HB3.out hU HB3.out.size (Nat.le_refl _)
        · obtain rfl : q = lz := by omega
          have e : zs.take q = zs := List.take_of_length_le (by rw [HLZ.out]; exact Nat.le_refl _)
          have hk5 := HK3.out
          rw [e, HKA.out] at hk5
          have hcn := HLT.out
          have hm := HLT0.out
          have HK5 := Lib.hid hk5
          clear HK3 hk5
          go_wp2
          refine ⟨⟨_, cnt1, n2 + q, Lib.hid ⟨HR3.out, fun kl h => HLS.out kl (by simp at h; exact h.1), HK5.out, by have h1 := HNQ.out; have h2 := HZL.out; omega, HB3.out⟩⟩, ?_⟩
          rw [HR3.out.left_eq]
          exact hm
end Go.Proofs.Ytmfphnhdahaooaa
/- A store that is built behind a crash: a file more, the sum, the directory that lasts. -/
namespace Go.Proofs.Ytmfphnhdahaooaa
open Go.RowKit Go.Maps

/-- The entry that has come is the directory's. -/
theorem nm_entry {g : ByteArray → Option Nat} {D : DataW Unit} (hg : ∀ s, isAt D s (g s)) {s : ByteArray} {v : Value} {y : DataW Unit × List MemPlace} (hh : Maps.has D (.string s.data.toList) = true)
    (hv : ptrR v = some y) (hat : ∀ zd, D.atKey (.string s.data.toList) zd = y.1) : ∃ X, g s = some X ∧ v = .pointer (some ⟨X, 0, none⟩) := by
  have h := hg s
  cases hr : g s with
  | none => rw [hr] at h; exact absurd hh (by rw [show Maps.has D (.string s.data.toList) = false from h]; simp)
  | some X =>
    rw [hr] at h
    obtain ⟨d, ps⟩ := y
    refine ⟨X, rfl, ptrR_some (ps := ps) ?_⟩
    rw [hv, ← h.2 d, hat d]
theorem ptr_form {v : Value} {y : DataW Unit × List MemPlace} (h : ptrR v = some y) : ∃ p : Option Addr, v = .pointer p := by
  rcases ptrR_shape h with ⟨rfl, _⟩ | ⟨X, rfl, _⟩
  · exact ⟨_, rfl⟩
  · exact ⟨_, rfl⟩
theorem size_nm {w : World} {N n : Nat} {D : DataW Unit} (h : w.ownsMap Try.prog 9 ptrR N n D) : Maps.size D ≤ n := by
  obtain ⟨es, clock, _, _, hs, rfl⟩ := h
  have e1 : Maps.size (DataW.map ((es.toList.map (WideElems.rg Try.prog 9 ptrR)).foldr DataW.insert [])) = es.size := by simp [Maps.size, length_sorted]
  omega

/-- A file more, under its name. -/
theorem Raw.boxed {w w9 : World} {B F N L n m X : Nat} {A : Fs} {f : Fil} (h : Raw w B F A N L n m (.slice none 0 0)) (ht : A.turns = []) (s : ByteArray) (hs : NameP s)
    (hk : ∀ (b : Nat) (x : Obj), b ≠ N → w.heap[b]? = some x → w9.heap[b]? = some x) (hN : NameMap w9 N (n + 1) (upN A.dir s (some X)))
    (hX : A.file X = none) (hf : FilOk w9 B X f) (h1 : Fresh A f.bv) (h2 : Fresh A f.lv) (h3 : f.bv.ownBlock ≠ none → f.bv.ownBlock ≠ f.lv.ownBlock) :
    Raw w9 B F { A with dir := upN A.dir s (some X), file := updF A.file X f } N L (n + 1) m (.slice none 0 0) := by
  obtain ⟨es, ck, hNb⟩ := h.names.heap
  have hsome : (updF A.file X f X).isSome = true := by unfold updF; rw [if_pos rfl]; rfl
  refine ⟨hk _ _ (Ne.symm (map_ne hNb h.store)) h.store, hN, h.lasts.kept (fun x hx => hk _ x (Ne.symm h.two) hx), h.two, ?_, h.new, ?_, ?_, ?_, ?_, ?_, h.caps, h.nums⟩
  · show w9.ownsRow B 87 4 (.slice none 0 0) A.turns.length (A.turns.flatMap Tn.cells)
    rw [ht]
    exact World.ownsRow_nil _ _ _ _
  · intro Y g hY
    have hY' : updF A.file X f Y = some g := hY
    unfold updF at hY'
    by_cases e : Y = X
    · rw [if_pos e] at hY'
      obtain rfl := Option.some.inj hY'
      rw [e]
      exact hf
    · rw [if_neg e] at hY'
      have hg := h.files Y g hY'
      exact hg.kept (fun x hx => hk Y x (Ne.symm (map_ne hNb hg.block)) hx) (fun b x hb hx => hk b x (fun e2 => own_ne hg.now hNb (by simp) (by rw [hb, e2])) hx) (fun b x hb hx => hk b x (fun e2 => own_ne hg.lasts hNb (by simp) (by rw [hb, e2])) hx)
  · intro Y Z g g' hY hZ
    have hY' : updF A.file X f Y = some g := hY
    have hZ' : updF A.file X f Z = some g' := hZ
    unfold updF at hY' hZ'
    by_cases eY : Y = X
    · rw [if_pos eY] at hY'
      obtain rfl := Option.some.inj hY'
      by_cases eZ : Z = X
      · rw [if_pos eZ] at hZ'
        obtain rfl := Option.some.inj hZ'
        exact ⟨fun e => absurd (eY.trans eZ.symm) e, h3⟩
      · rw [if_neg eZ] at hZ'
        exact ⟨fun _ hn e => (h1 Z g' hZ' hn).1 e.symm, fun hn e => (h1 Z g' hZ' hn).2 e.symm⟩
    · rw [if_neg eY] at hY'
      by_cases eZ : Z = X
      · rw [if_pos eZ] at hZ'
        obtain rfl := Option.some.inj hZ'
        exact ⟨fun _ hn e => (h1 Y g hY' (by rw [← e]; exact hn)).1 e, fun hn e => (h2 Y g hY' (by rw [← e]; exact hn)).1 e⟩
      · rw [if_neg eZ] at hZ'
        exact h.lone Y Z g g' hY' hZ'
  · intro t Y hY
    have hY' : upN A.dir s (some X) t = some Y := hY
    unfold upN at hY'
    by_cases e : t = s
    · rw [if_pos e] at hY'
      obtain rfl := Option.some.inj hY'
      exact ⟨e ▸ hs, hsome⟩
    · rw [if_neg e] at hY'
      exact ⟨(h.dirs t Y hY').1, updF_some (h.dirs t Y hY').2⟩
  · exact fun t Y hY => ⟨(h.lastd t Y hY).1, updF_some (h.lastd t Y hY).2⟩
  · intro t htt
    have : t ∈ A.turns := htt
    rw [ht] at this
    cases this

/-- The directory that lasts is a map of its own. -/
theorem Raw.lasting {w w' : World} {B F N L L2 n m m' : Nat} {A : Fs} {tv : Value} {g : ByteArray → Option Nat} (h : Raw w B F A N L n m tv) (hg : w.grownBy w' (some F)) (hs : w'.heap[F]? = some (.cells (fsC A.cap A.used N L2 tv A.fail A.pow A.off) 82 (0, 0)))
    (hm : NameMap w' L2 m' g) (hB : B ≤ L2) (hNL : N ≠ L2) (hd : ∀ s X, g s = some X → NameP s ∧ (A.file X).isSome = true) : Raw w' B F { A with last := g } N L2 n m' tv := by
  have other : ∀ (b : Nat) (x : Obj), b ≠ F → w.heap[b]? = some x → w'.heap[b]? = some x := fun b x hb hx => hb_grown hx hg (fun e => hb (Option.some.inj e))
  obtain ⟨es, ck, hN⟩ := h.names.heap
  refine ⟨hs, h.names.kept (fun x hx => other _ x (map_ne hN h.store) hx), hm, hNL, ?_, ⟨h.new.1, h.new.2.1, hB⟩, ?_, h.lone, h.dirs, hd, h.turn, h.caps, h.nums⟩
  · exact own_kept h.row fun g x hg2 hx => other g x (fun e => own_ne h.row h.store (by simp) (by rw [hg2, e])) hx
  · intro X f hX
    have hk := h.files X f hX
    exact hk.kept (fun x hx => other X x (tag_ne hk.block h.store (by decide)) hx) (fun g x hg2 hx => other g x (fun e => own_ne hk.now h.store (by simp) (by rw [hg2, e])) hx) (fun g x hg2 hx => other g x (fun e => own_ne hk.lasts h.store (by simp) (by rw [hg2, e])) hx)

theorem own_kept2 {w w' : World} {B : Nat} {v : Value} {e : TypeId} {size k : Nat} {xs : List Value} (ho : w.ownsRow B e size v k xs) (hc : ∀ (b : Nat) (cs : Array Value) (t : TypeId) (f : Nat × Nat), w.heap[b]? = some (.cells cs t f) → w'.heap[b]? = some (.cells cs t f)) : w'.ownsRow B e size v k xs := by
  refine own_kept ho fun g x hg2 hx => ?_
  rcases ho.2 with ⟨e, _⟩ | ⟨g2, cap, cur, e, _, hb, _⟩
  · rw [e] at hg2; cases hg2
  · rw [e] at hg2
    obtain rfl : g2 = g := by simpa [Value.ownBlock] using hg2
    rw [hb] at hx
    obtain rfl := Option.some.inj hx
    exact hc _ _ _ _ hb
/-- Cells and maps that were there are there. -/
theorem Raw.kept2 {w w' : World} {B F N L n m : Nat} {A : Fs} {tv : Value} (h : Raw w B F A N L n m tv) (hc : ∀ (b : Nat) (cs : Array Value) (t : TypeId) (f : Nat × Nat), w.heap[b]? = some (.cells cs t f) → w'.heap[b]? = some (.cells cs t f))
    (hm : ∀ (b : Nat) (es : Array MapEntry) (ck : Nat), w.heap[b]? = some (.map es ck) → w'.heap[b]? = some (.map es ck)) : Raw w' B F A N L n m tv := by
  obtain ⟨es, ck, hN⟩ := h.names.heap
  obtain ⟨ls, cl, hL⟩ := h.lasts.heap
  exact ⟨hc _ _ _ _ h.store, h.names.same ((hm _ _ _ hN).trans hN.symm), h.lasts.same ((hm _ _ _ hL).trans hL.symm), h.two, own_kept2 h.row hc, h.new, fun X f hX => ⟨(h.files X f hX).new, hc _ _ _ _ (h.files X f hX).block, own_kept2 (h.files X f hX).now hc, own_kept2 (h.files X f hX).lasts hc, (h.files X f hX).small, (h.files X f hX).bytes⟩, h.lone, h.dirs, h.lastd, h.turn, h.caps, h.nums⟩
/-- A step of a range turns the range's own block. -/
theorem Raw.ranged {w w' : World} {B F N L n m b r k cnt : Nat} {A : Fs} {tv : Value} {R : Value → Option (DataW Unit × List MemPlace)} {t : TypeId} {D : DataW Unit} {left : Lit → Bool} (h : Raw w B F A N L n m tv) (hr : w.ranges Try.prog t R b r k D left cnt) (hg : w.grownBy w' (some r)) : Raw w' B F A N L n m tv := by
  obtain ⟨es, clock, since, seen, c0, _, _, _, _, hb, _⟩ := hr
  refine h.kept2 (fun b cs t f hx => hb_grown hx hg fun e => ?_) (fun b es ck hx => hb_grown hx hg fun e => ?_)
  · rw [Option.some.inj e, hb] at hx; cases hx
  · rw [Option.some.inj e, hb] at hx; cases hx

/-- What a crash leaves of the file at a name. -/
def leaveL (gt : ByteArray → Option Sv) (s : ByteArray) (f : Fil) : List Value :=
  match gt s with
  | some x => stage (fun i => keptSet gt s (i : Int)) f.xs f.ls (if x.long = true then f.xs.length else f.ls.length) (sz (if x.long = true then f.xs.length else f.ls.length))
  | none => f.ls

theorem mem_stage {kp : Nat → Bool} {xs ls : List Value} {size q : Nat} (h1 : OneB xs) (h2 : OneB ls) : OneB (stage kp xs ls size q) := by
  have hz : ∀ (l : List Value), OneB l → ∀ j, ∃ c : UInt8, l.getD j zb = .int .u8 (c.toNat : Nat) := by
    intro l hl j
    rw [List.getD_eq_getElem?_getD]
    cases e : l[j]? with
    | none => exact ⟨0, rfl⟩
    | some v => exact hl v (List.mem_of_getElem? e)
  intro u hu
  simp only [stage, List.mem_map, List.mem_range] at hu
  obtain ⟨j, _, rfl⟩ := hu
  split
  · unfold finV
    split
    · exact hz _ h1 j
    · exact hz _ h2 j
  · exact ⟨0, rfl⟩
theorem leave_one {gt : ByteArray → Option Sv} {s : ByteArray} {f : Fil} (h : OneB f.xs ∧ OneB f.ls) : OneB (leaveL gt s f) := by
  unfold leaveL
  split
  · exact mem_stage h.1 h.2
  · exact h.2
theorem leave_len {gt : ByteArray → Option Sv} {s : ByteArray} {f : Fil} (h : f.xs.length ≤ 1048576 ∧ f.ls.length ≤ 1048576) : (leaveL gt s f).length ≤ 1048576 := by
  unfold leaveL
  split
  · rw [stage_len]
    split
    · exact h.1
    · exact h.2
  · exact h.2

/-- How far the walk over the directory has come. -/
def Walked (gt : ByteArray → Option Sv) (gd : ByteArray → Option Nat) (file : Nat → Option Fil) (left : Lit → Bool) (A' : Fs) : Prop :=
  ∀ s, match gd s with
    | none => A'.dir s = none
    | some X => if left (.string s.data.toList) = true then A'.dir s = none else
        ∃ f X' f', file X = some f ∧ A'.dir s = some X' ∧ A'.file X' = some f' ∧ f'.xs = leaveL gt s f ∧ f'.ls = leaveL gt s f

theorem Walked.step {gt : ByteArray → Option Sv} {gd : ByteArray → Option Nat} {file : Nat → Option Fil} {left : Lit → Bool} {A' : Fs} (h : Walked gt gd file left A') {s : ByteArray} {X X2 : Nat} {f f2 : Fil} (hX : gd s = some X) (hf : file X = some f)
    (h1 : f2.xs = leaveL gt s f) (h2 : f2.ls = leaveL gt s f) (hn : A'.file X2 = none) : Walked gt gd file (fun z => left z && !z.sameKey (.string s.data.toList)) { A' with dir := upN A'.dir s (some X2), file := updF A'.file X2 f2 } := by
  intro t
  by_cases e : t = s
  · subst e
    rw [hX]
    simp only [Lit.sameKey, beq_self_eq_true, Bool.not_true, Bool.and_false]
    refine ⟨f, X2, f2, hf, ?_, ?_, h1, h2⟩
    · simp [upN]
    · simp [updF]
  · have ht := h t
    have hk : (Lit.string t.data.toList).sameKey (.string s.data.toList) = false := by
      simp only [Lit.sameKey]
      rw [beq_eq_false_iff_ne]
      exact fun h => e (name_eq h)
    cases hg : gd t with
    | none =>
      rw [hg] at ht
      show upN A'.dir s (some X2) t = none
      unfold upN
      rw [if_neg e]
      exact ht
    | some Y =>
      rw [hg] at ht
      dsimp only at ht ⊢
      by_cases hl : left (.string t.data.toList) = true
      · rw [if_pos hl] at ht
        rw [if_pos (by rw [hl, hk]; rfl)]
        unfold upN
        rw [if_neg e]
        exact ht
      · rw [if_neg hl] at ht
        rw [if_neg (by simp [hl])]
        obtain ⟨g, X', f', a, b, c, d1, d2⟩ := ht
        refine ⟨g, X', f', a, ?_, ?_, d1, d2⟩
        · unfold upN
          rw [if_neg e]
          exact b
        · unfold updF
          rw [if_neg]
          · exact c
          · intro e2
            rw [e2, hn] at c
            cases c
theorem Walked.start {gt : ByteArray → Option Sv} {gd : ByteArray → Option Nat} {file : Nat → Option Fil} {left : Lit → Bool} {A' : Fs} (h : ∀ s, A'.dir s = none) (hl : ∀ s X, gd s = some X → left (.string s.data.toList) = true) : Walked gt gd file left A' := by
  intro s
  cases hg : gd s with
  | none => exact h s
  | some X =>
    dsimp only
    rw [if_pos (hl s X hg)]
    exact h s

def BoxC (B2 : Nat) (A' : Fs) (s : ByteArray) (l : List Value) (j : Nat) (wv wx : World) : Prop :=
  ∃ X2 f2, Raw wx B2 (B2 + 2) { A' with dir := upN A'.dir s (some X2), file := updF A'.file X2 f2 } B2 (B2 + 1) (j + 1) 0 (.slice none 0 0) ∧ f2.xs = l ∧ f2.ls = l ∧ A'.file X2 = none ∧ wv.grownBy wx (some B2)

theorem box_mk {wv w7 w8 w9 : World} {B2 j : Nat} {A' : Fs} {s : ByteArray} {l : List Value} {v1 v2 : Value} (hN : Raw wv B2 (B2 + 2) A' B2 (B2 + 1) j 0 (.slice none 0 0)) (ht : A'.turns = []) (hs : NameP s) (hl : l.length ≤ 1048576) (h1 : OneB l)
    (h7 : NewRow v1 l.length l wv.drew w7) (h8 : NewRow v2 l.length l w7 w8) (hN9 : NameMap w9 B2 (j + 1) (upN A'.dir s (some w8.heap.size))) (hU : (w8.alloc (.cells #[v1, v2] 85)).mapTurned w9 B2) : BoxC B2 A' s l j wv w9 := by
  have b7 : Below wv.heap.size wv w7 := ⟨h7.below.os, h7.below.tape, h7.below.output, h7.below.size, h7.below.block⟩
  have s7 : wv.heap.size ≤ w7.heap.size := b7.size
  have s8 := h8.below.size
  have b8 : Below wv.heap.size wv w8 := b7.trans (h8.below.mono s7)
  have hg := turned_grown hU
  have sz0 := hb_lt hN.store
  obtain ⟨es, ck, hNb⟩ := hN.names.heap
  have hN7 := hb_below hNb b7 (hb_lt hNb)
  have hN8 := hb_below hNb b8 (hb_lt hNb)
  have hr8 := hN.kept (w' := w8) fun b x hx => hb_below hx b8 (hb_lt hx)
  refine ⟨w8.heap.size, ⟨v1, v2, l, l⟩, hN.boxed ht s hs (fun b x hb hx => hb_grown (hb_alloc (hb_below hx b8 (hb_lt hx)) _) hg (by simp; exact hb)) hN9 hr8.no_file ⟨by omega, hb_grown (heap_alloc_new w8 _) hg (by simp; omega), ?_, ?_, ⟨hl, hl⟩, ⟨h1, h1⟩⟩ (fresh_new hN fun g hg2 => (h7.own.lt g hg2).1) (fresh_new hN fun g hg2 => Nat.le_trans s7 (h8.own.lt g hg2).1) ?_, rfl, rfl, hr8.no_file, ?_⟩
  · exact own_kept2 (own_base h7.own (by show B2 ≤ wv.heap.size; omega)) fun b cs t f hx => hb_grown (hb_alloc (hb_below hx h8.below (hb_lt hx)) _) hg (by simp; exact Ne.symm (map_ne hN7 hx))
  · exact own_kept2 (own_base h8.own (by omega)) fun b cs t f hx => hb_grown (hb_alloc hx _) hg (by simp; exact Ne.symm (map_ne hN8 hx))
  · intro hn e
    obtain ⟨g, hg2⟩ := Option.ne_none_iff_exists'.1 hn
    have e1 : v1.ownBlock = v2.ownBlock := e
    have a := (h7.own.lt g hg2).2
    have b := (h8.own.lt g (e1 ▸ hg2)).1
    omega
  · have bA := b8.alloc b8.size (.cells #[v1, v2] 85)
    exact ⟨hg.os.trans bA.os, hg.tape.trans bA.tape, hg.output.trans bA.output, Nat.le_trans bA.size hg.size, fun i hi hne => (hg.block i (Nat.lt_of_lt_of_le hi bA.size) hne).trans (bA.block i hi)⟩
end Go.Proofs.Ytmfphnhdahaooaa
