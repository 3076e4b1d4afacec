
/- A term, copied: it is that term, in new blocks. -/
import Derived.Test.YtknbhnicmgglbaaDoorU7
namespace Go.Proofs.YtknbhnicmgglbaaDoor
open Go.RowKit
def CopyX (d : Nat) : Prop := ∀ (v : Value) (t : Tm) (w : World), IsT w d v t → Sm d t → Calls Tryd.prog 23 #[v] w fun e w' => ∃ v', e = .returned v' ∧ IsX (fun b => w.heap.size ≤ b) w' d v' t ∧ Below w.heap.size w w'
def SliceX (d : Nat) (kids : List Tm) (w : World) (e : Ending) (w' : World) : Prop := ∃ s', e = .returned s' ∧ KidsX (fun b => w.heap.size ≤ b) w' d s' kids ∧ Below w.heap.size w w'
def KidsP (d : Nat) (k : Int) (p n : ByteArray) (N : Int) (kids : List Tm) (w : World) (e : Ending) (w' : World) : Prop := ∃ s', e = .returned (tv k p n N s') ∧ KidsX (fun b => w.heap.size ≤ b) w' d s' kids ∧ Below w.heap.size w w'
set_option maxRecDepth 100000 in
set_option maxHeartbeats 4000000 in
theorem listX_any (d : Nat) (HR : CopyX d) (kids : List Tm) (s : Value) (w : World) (hk : KidsT w d s kids) (hl : kids.length ≤ 100000) (hsm : ∀ x ∈ kids, Sm d x) :
    Calls Tryd.prog 35 #[s, .func (.func 23) #[] #[]] w (SliceX d kids w) := by
  obtain ⟨q1, c1, rfl, hkm, hK⟩ := hk
  have HK := Lib.hid hK
  have HSM := Lib.hid hsm
  have HR2 := Lib.hid HR
  obtain ⟨z, hz, hzc⟩ := info24
  obtain ⟨i0, hi, hz0, hz1, hz2⟩ := info_parts hz
  have HI := Lib.hid hi
  have HZ0 := Lib.hid hz0
  have HZ1 := Lib.hid hz1
  have HZ2 := Lib.hid hz2
  have HZC := Lib.hid hzc
  clear hK hsm HR hi hz0 hz1 hz2 hzc hz
  go_enter Tryd.func35, Tryd.ntmps35
  go_wp2
  go_loopw [5, 10] (fun sv i wr => ∃ j : Nat, j ≤ kids.length ∧ i = .int .i64 j ∧ Below w.heap.size w wr ∧ Made w.heap.size wr d sv (kids.take j)) (fun _ i _ => kids.length - (intOf i).toNat)
  case atStart => exact ⟨0, Nat.zero_le _, rfl, Below.refl _ _, Made.nil _ _ _⟩
  case round =>
    obtain ⟨j, hj, rfl, hbl, hmade⟩ := hrel
    have HBL := Lib.hid hbl
    have hsz := hbl.size
    by_cases hlt : j < kids.length
    · obtain ⟨l, hll, hown, hd⟩ := hmade
      have hjx : kids[j]? = some kids[j] := List.getElem?_eq_getElem hlt
      have HT : RowKit.Hid (kids.take (j + 1) = kids.take j ++ [kids[j]]) := Lib.hid (List.take_succ_eq_append_getElem hlt)
      have hlj : l.length = j := by rw [hll, List.length_take]; omega
      have HLL := Lib.hid hll
      have HD := Lib.hid hd
      have HSJ := Lib.hid (HSM.out kids[j] (List.getElem_mem hlt))
      have HLJ := Lib.hid hlj
      have HOW := Lib.hid hown
      obtain ⟨b, o, k', p', n', N', s', rfl, ta, it⟩ := HK.out j kids[j] hjx
      obtain ⟨q', l', c', rfl⟩ := it.spell
      have hta := ta.below hbl ta.lt
      have hitb := it.below hbl
      have HIT := Lib.hid hitb
      obtain ⟨y0, y1, y2, y3, y4⟩ := hta
      generalize kids[j] = x at *
      have HC := Lib.hid (HR2.out (tv k' p' n' N' (.slice q' l' c')) x (wr.alloc (.cells #[.int .i64 k', .string p', .string n', .int .i64 N', .slice q' l' c'] 24)) (HIT.out.below (below_alloc _ _)) HSJ.out)
      have hki : (j : Int) < (kids.length : Int) := by omega
      clear hbl hown hjx ta it hitb hlj hll hd
      go_wp2_with (first
        | (go_at_call 23; refine HC.out.mono ?_; rintro e w3 ⟨v3, rfl, hx3, hb3⟩; obtain ⟨k3, p3, n3, N3, q3, l3, c3, rfl⟩ := hx3.shape; have HX3 := Lib.hid hx3; have HB3 := Lib.hid hb3; have OW3 := Lib.hid (own_below (HOW.out.alloc _) hb3); have HZ3 := Lib.hid hb3.size; clear hx3 hb3)
        | (at_builtin; refine wpList_append_own_at _ rfl _ _ 22 rfl w.heap.size 24 i0 z 5 72 Tryd.underlying22 HI.out HZ0.out HZ1.out HZ2.out HZC.out (by decide) _ l.length (flatC l) rfl (OW3.out.alloc _) ⟨w3.heap.size, 0, none⟩ 1 1 [.int .i64 k3, .string p3, .string n3, .int .i64 N3, .slice q3 l3 c3] rfl rfl (fun j u hu => (by
            rw [add_zero_none]
            match j, hu with
            | 0, hu => cases hu; exact hb_at (hb_new w3 _) 0 rfl
            | 1, hu => cases hu; exact hb_at (hb_new w3 _) 1 rfl
            | 2, hu => cases hu; exact hb_at (hb_new w3 _) 2 rfl
            | 3, hu => cases hu; exact hb_at (hb_new w3 _) 3 rfl
            | 4, hu => cases hu; exact hb_at (hb_new w3 _) 4 rfl
            | j + 5, hu => simp at hu)) (by simp [Value.oneCell']) (by have := HLJ.out; unfold maxLen; omega) (by have := HLJ.out; omega) (by have := HZ3.out; simp at this; simp; omega) ?_; intro v4 w4 ho4 hg4 _ hblk4; have HO4 := Lib.hid ho4; have HG4 := Lib.hid hg4; have HBLK := Lib.hid hblk4; clear ho4 hg4 hblk4))
      have hB1 := HBL.out.alloc HBL.out.size (.cells #[.int .i64 k', .string p', .string n', .int .i64 N', .slice q' l' c'] 24)
      have hB3 := hB1.trans (HB3.out.mono hB1.size)
      have hB5 := hB3.alloc hB3.size (.cells #[.int .i64 k3, .string p3, .string n3, .int .i64 N3, .slice q3 l3 c3] 24)
      have hB4 := hB5.grown HG4.out hB5.size (fun g hg => by have := (HOW.out.lt g hg).1; omega)
      have hs1 := HBL.out.size
      refine ⟨⟨j + 1, by omega, by go_num, hB4, ?_⟩, by simp [intOf]; omega⟩
      rw [HT.out]
      exact Made.next HLL.out (HOW.out.alloc _) (fun i y hy => by
        obtain ⟨t, h1, h2⟩ := HD.out i y hy
        exact ⟨t, h1, h2.below (below_alloc _ _)⟩) (by simp; omega) HB3.out HX3.out (w3.alloc (.cells #[.int .i64 k3, .string p3, .string n3, .int .i64 N3, .slice q3 l3 c3] 24)) (fun b hb => Below.heap_alloc w3 _ b hb) (by simp) (by rw [flatC_snoc]; exact HO4.out) HG4.out HBLK.out
    · obtain rfl : j = kids.length := by omega
      obtain ⟨qs, cs, rfl⟩ := hmade.shape
      have HM := Lib.hid hmade
      clear hbl hmade
      go_wp2
      go_ret
      have hM : Made w.heap.size wr d (.slice qs kids.length cs) kids := by
        have h := HM.out
        rwa [List.take_length] at h
      rw [List.length_take, Nat.min_self]
      exact ⟨_, rfl, hM.all hkm fun b _ => rfl, HBL.out⟩
set_option maxRecDepth 100000 in
set_option maxHeartbeats 4000000 in
theorem kidsX_any (d : Nat) (HR : CopyX d) (k : Int) (p n : ByteArray) (N : Int) (kids : List Tm) (s : Value) (w : World) (hk : KidsT w d s kids) (hl : kids.length ≤ 100000) (hsm : ∀ x ∈ kids, Sm d x) :
    Calls Tryd.prog 29 #[tv k p n N s, .func (.func 23) #[] #[]] w (KidsP d k p n N kids w) := by
  have HK := Lib.hid hk
  have HLA := Lib.hid (fun W (hW : KidsT W d s kids) => listX_any d HR kids s W hW hl hsm)
  obtain ⟨q1, c1, rfl, _, _⟩ := hk
  have b0 := hb_alloc (hb_new w (.cells #[.int .i64 k, .string p, .string n, .int .i64 N, .slice q1 kids.length c1] 24)) (.cells #[.int .i64 0, .string ⟨#[]⟩, .string ⟨#[]⟩, .int .i64 0, .slice none 0 0] 24)
  have b1 := hb_new (w.alloc (.cells #[.int .i64 k, .string p, .string n, .int .i64 N, .slice q1 kids.length c1] 24)) (.cells #[.int .i64 0, .string ⟨#[]⟩, .string ⟨#[]⟩, .int .i64 0, .slice none 0 0] 24)
  rw [World.size_alloc] at b1
  have K0 := Lib.hid b0
  have K1 := Lib.hid b1
  have hB0 := below2 w (.cells #[.int .i64 k, .string p, .string n, .int .i64 N, .slice q1 kids.length c1] 24) (.cells #[.int .i64 0, .string ⟨#[]⟩, .string ⟨#[]⟩, .int .i64 0, .slice none 0 0] 24)
  have HB0 := Lib.hid hB0
  have HK1 := Lib.hid (HK.out.below hB0)
  clear b0 b1 hB0
  go_enter Tryd.func29, Tryd.ntmps29
  go_wp2_with (go_at_call 35; refine (HLA.out _ HK1.out).mono ?_; rintro e w3 ⟨s3, rfl, hk3, hb3⟩; obtain ⟨q3, c3, rfl, _⟩ : ∃ q c, s3 = .slice q kids.length c ∧ True := (by obtain ⟨q, c, h, _⟩ := hk3; exact ⟨q, c, h, trivial⟩); have HK3 := Lib.hid hk3; have HB3 := Lib.hid hb3; have u0 := hb_below K0.out hb3 (by simp; omega); have u1 := hb_below K1.out hb3 (by simp); have x0 := hb_at u0 0 rfl; have x1 := hb_at u0 1 rfl; have x2 := hb_at u0 2 rfl; have x3 := hb_at u0 3 rfl; have x4 := hb_at u0 4 rfl; have f4 := hb_free u0 4; have y0 := hb_at u1 0 rfl; have y1 := hb_at u1 1 rfl; have y2 := hb_at u1 2 rfl; have y3 := hb_at u1 3 rfl; have y4 := hb_at u1 4 rfl; have g0 := hb_free u1 0; have g1 := hb_free u1 1; have g2 := hb_free u1 2; have g3 := hb_free u1 3; have g4 := hb_free u1 4; clear u0 u1 hb3 hk3)
  have hB3 : Below w.heap.size w w3 := HB0.out.trans (HB3.out.mono HB0.out.size)
  have hz0 := HB0.out.size
  have hs0 : ((w.alloc (.cells #[.int .i64 k, .string p, .string n, .int .i64 N, .slice q1 kids.length c1] 24)).alloc (.cells #[.int .i64 0, .string ⟨#[]⟩, .string ⟨#[]⟩, .int .i64 0, .slice none 0 0] 24)).heap.size = w.heap.size + 2 := by simp
  refine bodyPost_ret (v := tv k p n N (.slice q3 kids.length c3)) (by simp [results, Tryd.results29, go_sem, y0, y1, y2, y3, y4]) rfl ⟨_, rfl, ?_, ((((((hB3.setCell (by simp) _).setCell (by simp) _).setCell (by simp) _).setCell (by simp) _).setCell (by simp) _).setCell (by simp) _)⟩
  refine (HK3.out.move (Y := fun b => w.heap.size ≤ b) fun b hb => ?_)
  have hb2 : w.heap.size + 2 ≤ b := by rw [← hs0]; exact hb
  refine ⟨by omega, ?_⟩
  rw [Below.heap_setCell _ _ _ b (by show b ≠ w.heap.size + 1; omega), Below.heap_setCell _ _ _ b (by show b ≠ w.heap.size + 1; omega), Below.heap_setCell _ _ _ b (by show b ≠ w.heap.size + 1; omega), Below.heap_setCell _ _ _ b (by show b ≠ w.heap.size + 1; omega), Below.heap_setCell _ _ _ b (by show b ≠ w.heap.size + 1; omega), Below.heap_setCell _ _ _ b (by show b ≠ w.heap.size; omega)]
set_option maxRecDepth 100000 in
theorem copyX_any : ∀ d, CopyX d := by
  intro d
  induction d with
  | zero => intro v t w h; cases h
  | succ d ih =>
    intro v t w h hs
    obtain ⟨k, p, n, N, kids⟩ := t
    obtain ⟨q, c, rfl, hp, hn, hkm, hK⟩ := h
    have HW := Lib.hid (kidsX_any d ih k p n N kids (.slice q kids.length c))
    have HKT : RowKit.Hid (KidsT w d (.slice q kids.length c) kids) := Lib.hid ⟨q, c, rfl, hkm, hK⟩
    have HS1 := Lib.hid hs.1
    have HS2 := Lib.hid hs.2
    have HB0 := Lib.hid (below2 w (.cells #[.int .i64 k, .string p, .string n, .int .i64 N, .slice q kids.length c] 24) (.cells #[.int .i64 0, .string ⟨#[]⟩, .string ⟨#[]⟩, .int .i64 0, .slice none 0 0] 24))
    have hb1 := hb_new (w.alloc (.cells #[.int .i64 k, .string p, .string n, .int .i64 N, .slice q kids.length c] 24)) (.cells #[.int .i64 0, .string ⟨#[]⟩, .string ⟨#[]⟩, .int .i64 0, .slice none 0 0] 24)
    rw [World.size_alloc] at hb1
    have K1 := Lib.hid hb1
    have HP := Lib.hid hp
    have HN := Lib.hid hn
    clear hK hs hp hn hb1
    go_enter Tryd.func23, Tryd.ntmps23
    go_wp2_with (go_at_call 29; refine (HW.out _ (HKT.out.below HB0.out) HS1.out HS2.out).mono ?_; rintro e w3 ⟨s3, rfl, hk3, hb3⟩; obtain ⟨q3, c3, rfl, _⟩ : ∃ q c, s3 = .slice q kids.length c ∧ True := (by obtain ⟨q, c, h, _⟩ := hk3; exact ⟨q, c, h, trivial⟩); have HK3 := Lib.hid hk3; have h1 := hb_below K1.out hb3 (by simp); have y0 := hb_at h1 0 rfl; have y1 := hb_at h1 1 rfl; have y2 := hb_at h1 2 rfl; have y3 := hb_at h1 3 rfl; have y4 := hb_at h1 4 rfl; have g0 := hb_free h1 0; have g1 := hb_free h1 1; have g2 := hb_free h1 2; have g3 := hb_free h1 3; have g4 := hb_free h1 4; have HB3 := Lib.hid hb3; clear hb3 h1 hk3)
    have hB3 : Below w.heap.size w w3 := HB0.out.trans (HB3.out.mono HB0.out.size)
    have hs0 : ((w.alloc (.cells #[.int .i64 k, .string p, .string n, .int .i64 N, .slice q kids.length c] 24)).alloc (.cells #[.int .i64 0, .string ⟨#[]⟩, .string ⟨#[]⟩, .int .i64 0, .slice none 0 0] 24)).heap.size = w.heap.size + 2 := by simp
    refine bodyPost_ret (v := tv k p n N (.slice q3 kids.length c3)) (by simp [results, Tryd.results23, go_sem, y0, y1, y2, y3, y4]) rfl ⟨_, rfl, IsX.mk HP.out HN.out ?_, (((((hB3.setCell (by simp) _).setCell (by simp) _).setCell (by simp) _).setCell (by simp) _).setCell (by simp) _)⟩
    refine (HK3.out.move (Y := fun b => w.heap.size ≤ b) fun b hb => ?_)
    have hb2 : w.heap.size + 2 ≤ b := by rw [← hs0]; exact hb
    refine ⟨by omega, ?_⟩
    rw [Below.heap_setCell _ _ _ b (by show b ≠ w.heap.size + 1; omega), Below.heap_setCell _ _ _ b (by show b ≠ w.heap.size + 1; omega), Below.heap_setCell _ _ _ b (by show b ≠ w.heap.size + 1; omega), Below.heap_setCell _ _ _ b (by show b ≠ w.heap.size + 1; omega), Below.heap_setCell _ _ _ b (by show b ≠ w.heap.size + 1; omega)]
end Go.Proofs.YtknbhnicmgglbaaDoor
