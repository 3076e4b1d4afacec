/- withKids of the closure that puts types in the place of variables. -/
import Derived.Test.YthcpmdgdbceeiaaGreatDoorU4
import Derived.Deep.DeepCutAuto
import Derived.Outline
namespace Go.Proofs.YthcpmdgdbceeiaaGreatDoor
open Go.RowKit
/-- What the closure makes of each term (at most d deep), wherever what it has is as in w0: F of it, at most d2 deep, in new blocks. -/
def PutR (Bm Bb Bp d d2 : Nat) (F : Tm → Tm) (w0 : World) : Prop := ∀ (v : Value) (t : Tm) (w : World), Below w0.heap.size w0 w → IsT w d v t → Sm d t → Calls Tryz.prog 48 #[v, .pointer (some ⟨Bm, 0, none⟩), .pointer (some ⟨Bb, 0, none⟩), .pointer (some ⟨Bp, 0, none⟩)] w fun e w' => ∃ v', e = .returned v' ∧ IsX (fun b => w.heap.size ≤ b) w' d2 v' (F t) ∧ Below w.heap.size w w'
set_option maxRecDepth 100000 in
set_option maxHeartbeats 4000000 in
theorem withKids48 (Bm Bb Bp : Nat) (d d2 : Nat) (F : Tm → Tm) (k : Int) (p n : ByteArray) (N : Int) (kids : List Tm) (s : Value) (w : World) (HR : PutR Bm Bb Bp d d2 F w) (hk : KidsT w d s kids) (hl : kids.length ≤ 100000) (hsm : ∀ x ∈ kids, Sm d x) :
    Calls Tryz.prog 50 #[tv k p n N s, .func (.func 48) #[] #[.pointer (some ⟨Bm, 0, none⟩), .pointer (some ⟨Bb, 0, none⟩), .pointer (some ⟨Bp, 0, none⟩)]] w fun e w' => ∃ s', e = .returned (tv k p n N s') ∧ KidsX (fun b => w.heap.size ≤ b) w' d2 s' (kids.map F) ∧ Below w.heap.size w w' := by
  obtain ⟨q1, c1, rfl, hkm, hK⟩ := hk
  have HK := Lib.hid hK
  have HSM := Lib.hid hsm
  have HR2 := Lib.hid HR
  obtain ⟨z, hz, hzc⟩ := info24
  obtain ⟨i0, hi, hz0, hz1, hz2⟩ := info_parts hz
  have HI := Lib.hid hi
  have HZ0 := Lib.hid hz0
  have HZ1 := Lib.hid hz1
  have HZ2 := Lib.hid hz2
  have HZC := Lib.hid hzc
  clear hK hsm HR hi hz0 hz1 hz2 hzc hz
  have hB0 := below2 w (.cells #[.int .i64 k, .string p, .string n, .int .i64 N, .slice q1 kids.length c1] 24) (.cells #[.int .i64 0, .string ⟨#[]⟩, .string ⟨#[]⟩, .int .i64 0, .slice none 0 0] 24)
  have hb0 := hb_alloc (hb_new w (.cells #[.int .i64 k, .string p, .string n, .int .i64 N, .slice q1 kids.length c1] 24)) (.cells #[.int .i64 0, .string ⟨#[]⟩, .string ⟨#[]⟩, .int .i64 0, .slice none 0 0] 24)
  have hb1 := hb_new (w.alloc (.cells #[.int .i64 k, .string p, .string n, .int .i64 N, .slice q1 kids.length c1] 24)) (.cells #[.int .i64 0, .string ⟨#[]⟩, .string ⟨#[]⟩, .int .i64 0, .slice none 0 0] 24)
  rw [World.size_alloc] at hb1
  have HB0 := Lib.hid hB0
  have K0 := Lib.hid hb0
  have K1 := Lib.hid hb1
  clear hB0 hb0 hb1
  go_enter Tryz.func50, Tryz.ntmps50
  go_wp2
  go_loopw [5, 11] (fun sv i wr => ∃ j : Nat, j ≤ kids.length ∧ i = .int .i64 j ∧ Below w.heap.size w wr ∧ wr.heap[w.heap.size]? = some (.cells #[.int .i64 k, .string p, .string n, .int .i64 N, .slice q1 kids.length c1] 24 (0, 0)) ∧ wr.heap[w.heap.size + 1]? = some (.cells #[.int .i64 0, .string ⟨#[]⟩, .string ⟨#[]⟩, .int .i64 0, .slice none 0 0] 24 (0, 0)) ∧ w.heap.size + 2 ≤ wr.heap.size ∧ Made (w.heap.size + 2) wr d2 sv ((kids.take j).map F)) (fun _ i _ => kids.length - (intOf i).toNat)
  case atStart => exact ⟨0, Nat.zero_le _, rfl, HB0.out, K0.out, K1.out, by simp, Made.nil _ _ _⟩
  case round =>
    obtain ⟨j, hj, rfl, hbl, h0, h1, hsz, hmade⟩ := hrel
    have HBL := Lib.hid hbl
    have J0 := Lib.hid h0
    have J1 := Lib.hid h1
    by_cases hlt : j < kids.length
    · obtain ⟨l, hll, hown, hd⟩ := hmade
      have hjx : kids[j]? = some kids[j] := List.getElem?_eq_getElem hlt
      have HT : RowKit.Hid (kids.take (j + 1) = kids.take j ++ [kids[j]]) := Lib.hid (List.take_succ_eq_append_getElem hlt)
      have HSJ := Lib.hid (HSM.out kids[j] (List.getElem_mem hlt))
      have hlj : l.length = j := by rw [hll, List.length_map, List.length_take]; omega
      have HLL := Lib.hid hll
      have HLJ := Lib.hid hlj
      have HOW := Lib.hid hown
      have HD := Lib.hid hd
      obtain ⟨b, o, k', p', n', N', s', rfl, ta, it⟩ := HK.out j kids[j] hjx
      obtain ⟨m1, _, _, _, _, _, _, _, _, hveq, _, _, hks⟩ := it.open
      cases hveq
      obtain ⟨q', l', c', rfl⟩ := hks.slice
      have hta := ta.below hbl ta.lt
      have hitb := it.below hbl
      have HIT := Lib.hid hitb
      obtain ⟨y0, y1, y2, y3, y4⟩ := hta
      generalize kids[j] = x at *
      have HC := Lib.hid (HR2.out (tv k' p' n' N' (.slice q' l' c')) x (wr.alloc (.cells #[.int .i64 k', .string p', .string n', .int .i64 N', .slice q' l' c'] 24)) (HBL.out.alloc HBL.out.size _) (HIT.out.below (below_alloc _ _)) HSJ.out)
      have hki : (j : Int) < (kids.length : Int) := by omega
      clear hbl h0 h1 hll hown hd hjx ta it hks hitb hlj
      go_wp2_with (first
        | (go_at_call 48; refine HC.out.mono ?_; rintro e w3 ⟨v3, rfl, hx3, hb3⟩; obtain ⟨k3, p3, n3, N3, q3, l3, c3, rfl⟩ := hx3.shape; have HX3 := Lib.hid hx3; have HB3 := Lib.hid hb3; have OW3 := Lib.hid (own_below (HOW.out.alloc _) hb3); have HZ3 := Lib.hid hb3.size; clear hx3 hb3)
        | (at_builtin; refine wpList_append_own_at _ rfl _ _ 22 rfl (w.heap.size + 2) 24 i0 z 5 72 Tryz.underlying22 HI.out HZ0.out HZ1.out HZ2.out HZC.out (by decide) _ l.length (flatC l) rfl (OW3.out.alloc _) ⟨w3.heap.size, 0, none⟩ 1 1 [.int .i64 k3, .string p3, .string n3, .int .i64 N3, .slice q3 l3 c3] rfl rfl (fun j u hu => (by
            rw [add_zero_none]
            match j, hu with
            | 0, hu => cases hu; exact hb_at (hb_new w3 _) 0 rfl
            | 1, hu => cases hu; exact hb_at (hb_new w3 _) 1 rfl
            | 2, hu => cases hu; exact hb_at (hb_new w3 _) 2 rfl
            | 3, hu => cases hu; exact hb_at (hb_new w3 _) 3 rfl
            | 4, hu => cases hu; exact hb_at (hb_new w3 _) 4 rfl
            | j + 5, hu => simp at hu)) (by simp [Value.oneCell']) (by have := HLJ.out; unfold maxLen; omega) (by have := HLJ.out; omega) (by have := HZ3.out; simp at this; simp; omega) ?_; intro v4 w4 ho4 hg4 _ hblk4; have HO4 := Lib.hid ho4; have HG4 := Lib.hid hg4; have HBLK := Lib.hid hblk4; clear ho4 hg4 hblk4))
      have hwb : w.heap.size < (wr.alloc (.cells #[.int .i64 k', .string p', .string n', .int .i64 N', .slice q' l' c'] 24)).heap.size := by simp; omega
      have hwb1 : w.heap.size + 1 < (wr.alloc (.cells #[.int .i64 k', .string p', .string n', .int .i64 N', .slice q' l' c'] 24)).heap.size := by simp; omega
      have hB1 := HBL.out.alloc HBL.out.size (.cells #[.int .i64 k', .string p', .string n', .int .i64 N', .slice q' l' c'] 24)
      have hB3 := hB1.trans (HB3.out.mono hB1.size)
      have hB5 := hB3.alloc hB3.size (.cells #[.int .i64 k3, .string p3, .string n3, .int .i64 N3, .slice q3 l3 c3] 24)
      have hB4 := hB5.grown HG4.out hB5.size (fun g hg => by have := (HOW.out.lt g hg).1; omega)
      have e0 := hb_grown (hb_alloc (hb_below (hb_alloc J0.out (.cells #[.int .i64 k', .string p', .string n', .int .i64 N', .slice q' l' c'] 24)) HB3.out hwb) (.cells #[.int .i64 k3, .string p3, .string n3, .int .i64 N3, .slice q3 l3 c3] 24)) HG4.out (fun e => by have := (HOW.out.lt _ e.symm).1; omega)
      have e1 := hb_grown (hb_alloc (hb_below (hb_alloc J1.out (.cells #[.int .i64 k', .string p', .string n', .int .i64 N', .slice q' l' c'] 24)) HB3.out hwb1) (.cells #[.int .i64 k3, .string p3, .string n3, .int .i64 N3, .slice q3 l3 c3] 24)) HG4.out (fun e => by have := (HOW.out.lt _ e.symm).1; omega)
      have hz4 := HG4.out.size
      have hz3 := HZ3.out
      simp at hz4 hz3
      refine ⟨⟨j + 1, by omega, by go_num, hB4, e0, e1, by omega, ?_⟩, by simp [intOf]; omega⟩
      rw [HT.out, List.map_append]
      exact Made.next HLL.out (HOW.out.alloc _) (fun i y hy => by
        obtain ⟨t, h1, h2⟩ := HD.out i y hy
        exact ⟨t, h1, h2.below (below_alloc _ _)⟩) (by omega) HB3.out HX3.out (w3.alloc (.cells #[.int .i64 k3, .string p3, .string n3, .int .i64 N3, .slice q3 l3 c3] 24)) (fun b hb => Below.heap_alloc w3 _ b hb) (by simp) (by rw [flatC_snoc]; exact HO4.out) HG4.out HBLK.out
    · obtain rfl : j = kids.length := by omega
      obtain ⟨qs, cs, rfl⟩ := hmade.shape
      have HM := Lib.hid hmade
      have x0 := hb_at h0 0 rfl
      have x1 := hb_at h0 1 rfl
      have x2 := hb_at h0 2 rfl
      have x3 := hb_at h0 3 rfl
      have x4 := hb_at h0 4 rfl
      have f4 := hb_free h0 4
      have y0 := hb_at h1 0 rfl
      have y1 := hb_at h1 1 rfl
      have y2 := hb_at h1 2 rfl
      have y3 := hb_at h1 3 rfl
      have y4 := hb_at h1 4 rfl
      have g0 := hb_free h1 0
      have g1 := hb_free h1 1
      have g2 := hb_free h1 2
      have g3 := hb_free h1 3
      have g4 := hb_free h1 4
      clear hbl h0 h1 hmade
      go_wp2
      have hM : Made (w.heap.size + 2) wr d2 (.slice qs kids.length cs) (kids.map F) := by
        have h := HM.out
        rwa [List.length_map, List.take_length] at h
      refine bodyPost_ret (v := tv k p n N (.slice qs kids.length cs)) (by simp [results, Tryz.results50, go_sem, y0, y1, y2, y3, y4]) rfl ⟨_, rfl, ?_, ((((((HBL.out.setCell (by simp) _).setCell (by simp) _).setCell (by simp) _).setCell (by simp) _).setCell (by simp) _).setCell (by simp) _)⟩
      refine (hM.all (by rw [List.length_map]; exact hkm) fun b hb => ?_).mono fun b hb => by omega
      rw [Below.heap_setCell _ _ _ b (by show b ≠ w.heap.size + 1; omega), Below.heap_setCell _ _ _ b (by show b ≠ w.heap.size + 1; omega), Below.heap_setCell _ _ _ b (by show b ≠ w.heap.size + 1; omega), Below.heap_setCell _ _ _ b (by show b ≠ w.heap.size + 1; omega), Below.heap_setCell _ _ _ b (by show b ≠ w.heap.size + 1; omega), Below.heap_setCell _ _ _ b (by show b ≠ w.heap.size; omega)]
end Go.Proofs.YthcpmdgdbceeiaaGreatDoor
