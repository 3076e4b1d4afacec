/- Texts in a row: U4 U5 U6. -/
import Derived.Test.YtncebhddcokkoaaDoorZM6
import Derived.Deep.DeepCutAuto
import Derived.Outline
import Derived.Test.YtncebhddcokkoaaDoorZM5
/- clone, and withKids of it. -/
namespace Go.Proofs.YtncebhddcokkoaaDoor
open Go.RowKit
theorem KidsX.mono {X Y : Nat → Prop} {w : World} {d : Nat} {s : Value} {kids : List Tm} (h : KidsX X w d s kids) (hXY : ∀ b, X b → Y b) : KidsX Y w d s kids := by
  obtain ⟨q, c, h1, h2, h3⟩ := h
  refine ⟨q, c, h1, h2, fun i x hx => ?_⟩
  obtain ⟨b, o, k', p', n', N', s', e, hX, ha, ht⟩ := h3 i x hx
  exact ⟨b, o, k', p', n', N', s', e, hXY b hX, ha, ht.move fun b hX _ => ⟨hXY b hX, rfl⟩⟩
theorem KidsX.move {X Y : Nat → Prop} {w w' : World} {d : Nat} {s : Value} {kids : List Tm} (h : KidsX X w d s kids) (hXY : ∀ b, X b → Y b ∧ w'.heap[b]? = w.heap[b]?) : KidsX Y w' d s kids := by
  obtain ⟨q, c, h1, h2, h3⟩ := h
  refine ⟨q, c, h1, h2, fun i x hx => ?_⟩
  obtain ⟨b, o, k', p', n', N', s', e, hX, ha, ht⟩ := h3 i x hx
  exact ⟨b, o, k', p', n', N', s', e, (hXY b hX).1, ha.keep fun j => by simp [World.cell?, (hXY b hX).2], ht.move fun b hX _ => hXY b hX⟩
def CloneR (d : Nat) : Prop := ∀ (v : Value) (t : Tm) (w : World), IsT w d v t → Sm d t → Calls Tryd.prog 91 #[v] w fun e w' => ∃ v', e = .returned v' ∧ IsX (fun b => w.heap.size ≤ b) w' d v' t ∧ Below w.heap.size w w'
theorem own_below {w w' : World} {base : Nat} {e : TypeId} {size n : Nat} {v : Value} {xs : List Value} (h : w.ownsRow base e size v n xs) (hb : Below w.heap.size w w') : w'.ownsRow base e size v n xs := by
  obtain ⟨hl, h0 | ⟨g, cap, cur, hv, hbg, hh, r⟩⟩ := h
  · exact ⟨hl, .inl h0⟩
  · exact ⟨hl, .inr ⟨g, cap, cur, hv, hbg, hb_below hh hb (hb_lt hh), r⟩⟩
theorem Made.shape {base : Nat} {w : World} {d : Nat} {sv : Value} {done : List Tm} (h : Made base w d sv done) : ∃ q c, sv = .slice q done.length c := by
  obtain ⟨l, hl, ho, _⟩ := h
  obtain ⟨_, ⟨rfl, h0⟩ | ⟨g, cap, cur, rfl, _⟩⟩ := ho
  · exact ⟨none, 0, by rw [← hl, h0]⟩
  · exact ⟨_, cap, by rw [hl]⟩
set_option maxRecDepth 100000 in
set_option maxHeartbeats 4000000 in
theorem withKids49 (d : Nat) (HR : CloneR d) (k : Int) (p n : ByteArray) (N : Int) (kids : List Tm) (s : Value) (w : World) (hk : KidsT w d s kids) (hl : kids.length ≤ 100000) (hsm : ∀ x ∈ kids, Sm d x) :
    Calls Tryd.prog 92 #[tv k p n N s, .func (.func 91) #[] #[]] w fun e w' => ∃ s', e = .returned (tv k p n N s') ∧ KidsX (fun b => w.heap.size ≤ b) w' d s' kids ∧ Below w.heap.size w w' := by
  obtain ⟨q1, c1, rfl, hkm, hK⟩ := hk
  have HK := Lib.hid hK
  have HSM := Lib.hid hsm
  have HR2 := Lib.hid HR
  obtain ⟨z, hz, hzc⟩ := info24
  obtain ⟨i0, hi, hz0, hz1, hz2⟩ := info_parts hz
  have HI := Lib.hid hi
  have HZ0 := Lib.hid hz0
  have HZ1 := Lib.hid hz1
  have HZ2 := Lib.hid hz2
  have HZC := Lib.hid hzc
  clear hK hsm HR hi hz0 hz1 hz2 hzc hz
  have hB0 := below2 w (.cells #[.int .i64 k, .string p, .string n, .int .i64 N, .slice q1 kids.length c1] 36) (.cells #[.int .i64 0, .string ⟨#[]⟩, .string ⟨#[]⟩, .int .i64 0, .slice none 0 0] 36)
  have hb0 := hb_alloc (hb_new w (.cells #[.int .i64 k, .string p, .string n, .int .i64 N, .slice q1 kids.length c1] 36)) (.cells #[.int .i64 0, .string ⟨#[]⟩, .string ⟨#[]⟩, .int .i64 0, .slice none 0 0] 36)
  have hb1 := hb_new (w.alloc (.cells #[.int .i64 k, .string p, .string n, .int .i64 N, .slice q1 kids.length c1] 36)) (.cells #[.int .i64 0, .string ⟨#[]⟩, .string ⟨#[]⟩, .int .i64 0, .slice none 0 0] 36)
  rw [World.size_alloc] at hb1
  have HB0 := Lib.hid hB0
  have K0 := Lib.hid hb0
  have K1 := Lib.hid hb1
  clear hB0 hb0 hb1
  go_enter Tryd.func92, Tryd.ntmps92
  go_wp2
  go_loopw [5, 11] (fun sv i wr => ∃ j : Nat, j ≤ kids.length ∧ i = .int .i64 j ∧ Below w.heap.size w wr ∧ wr.heap[w.heap.size]? = some (.cells #[.int .i64 k, .string p, .string n, .int .i64 N, .slice q1 kids.length c1] 36 (0, 0)) ∧ wr.heap[w.heap.size + 1]? = some (.cells #[.int .i64 0, .string ⟨#[]⟩, .string ⟨#[]⟩, .int .i64 0, .slice none 0 0] 36 (0, 0)) ∧ w.heap.size + 2 ≤ wr.heap.size ∧ Made (w.heap.size + 2) wr d sv (kids.take j)) (fun _ i _ => kids.length - (intOf i).toNat)
  case atStart => exact ⟨0, Nat.zero_le _, rfl, HB0.out, K0.out, K1.out, by simp, Made.nil _ _ _⟩
  case round =>
    obtain ⟨j, hj, rfl, hbl, h0, h1, hsz, hmade⟩ := hrel
    have HBL := Lib.hid hbl
    have J0 := Lib.hid h0
    have J1 := Lib.hid h1
    by_cases hlt : j < kids.length
    · obtain ⟨l, hll, hown, hd⟩ := hmade
      have hjx : kids[j]? = some kids[j] := List.getElem?_eq_getElem hlt
      have HT : RowKit.Hid (kids.take (j + 1) = kids.take j ++ [kids[j]]) := Lib.hid (List.take_succ_eq_append_getElem hlt)
      have HSJ := Lib.hid (HSM.out kids[j] (List.getElem_mem hlt))
      have hlj : l.length = j := by rw [hll, List.length_take]; omega
      have HLL := Lib.hid hll
      have HLJ := Lib.hid hlj
      have HOW := Lib.hid hown
      have HD := Lib.hid hd
      obtain ⟨b, o, k', p', n', N', s', rfl, ta, it⟩ := HK.out j kids[j] hjx
      obtain ⟨m1, _, _, _, _, _, _, _, _, hveq, _, _, hks⟩ := it.open
      cases hveq
      obtain ⟨q', l', c', rfl⟩ := hks.slice
      have hta := ta.below hbl ta.lt
      have hitb := it.below hbl
      have HIT := Lib.hid hitb
      obtain ⟨y0, y1, y2, y3, y4⟩ := hta
      generalize kids[j] = x at *
      have HC := Lib.hid (HR2.out (tv k' p' n' N' (.slice q' l' c')) x (wr.alloc (.cells #[.int .i64 k', .string p', .string n', .int .i64 N', .slice q' l' c'] 36)) (HIT.out.below (below_alloc _ _)) HSJ.out)
      have hki : (j : Int) < (kids.length : Int) := by omega
      clear hbl h0 h1 hll hown hd hjx ta it hks hitb hlj
      go_wp2_with (first
        | (go_at_call 91; refine HC.out.mono ?_; rintro e w3 ⟨v3, rfl, hx3, hb3⟩; obtain ⟨k3, p3, n3, N3, q3, l3, c3, rfl⟩ := hx3.shape; have HX3 := Lib.hid hx3; have HB3 := Lib.hid hb3; have OW3 := Lib.hid (own_below (HOW.out.alloc _) hb3); have HZ3 := Lib.hid hb3.size; clear hx3 hb3)
        | (at_builtin; refine wpList_append_own_at _ rfl _ _ 34 rfl (w.heap.size + 2) 36 i0 z 5 72 Tryd.underlying34 HI.out HZ0.out HZ1.out HZ2.out HZC.out (by decide) _ l.length (flatC l) rfl (OW3.out.alloc _) ⟨w3.heap.size, 0, none⟩ 1 1 [.int .i64 k3, .string p3, .string n3, .int .i64 N3, .slice q3 l3 c3] rfl rfl (fun j u hu => (by
            rw [add_zero_none]
            match j, hu with
            | 0, hu => cases hu; exact hb_at (hb_new w3 _) 0 rfl
            | 1, hu => cases hu; exact hb_at (hb_new w3 _) 1 rfl
            | 2, hu => cases hu; exact hb_at (hb_new w3 _) 2 rfl
            | 3, hu => cases hu; exact hb_at (hb_new w3 _) 3 rfl
            | 4, hu => cases hu; exact hb_at (hb_new w3 _) 4 rfl
            | j + 5, hu => simp at hu)) (by simp [Value.oneCell']) (by have := HLJ.out; unfold maxLen; omega) (by have := HLJ.out; omega) (by have := HZ3.out; simp at this; simp; omega) ?_; intro v4 w4 ho4 hg4 _ hblk4; have HO4 := Lib.hid ho4; have HG4 := Lib.hid hg4; have HBLK := Lib.hid hblk4; clear ho4 hg4 hblk4))
      have hwb : w.heap.size < (wr.alloc (.cells #[.int .i64 k', .string p', .string n', .int .i64 N', .slice q' l' c'] 36)).heap.size := by simp; omega
      have hwb1 : w.heap.size + 1 < (wr.alloc (.cells #[.int .i64 k', .string p', .string n', .int .i64 N', .slice q' l' c'] 36)).heap.size := by simp; omega
      have hB1 := HBL.out.alloc HBL.out.size (.cells #[.int .i64 k', .string p', .string n', .int .i64 N', .slice q' l' c'] 36)
      have hB3 := hB1.trans (HB3.out.mono hB1.size)
      have hB5 := hB3.alloc hB3.size (.cells #[.int .i64 k3, .string p3, .string n3, .int .i64 N3, .slice q3 l3 c3] 36)
      have hB4 := hB5.grown HG4.out hB5.size (fun g hg => by have := (HOW.out.lt g hg).1; omega)
      have e0 := hb_grown (hb_alloc (hb_below (hb_alloc J0.out (.cells #[.int .i64 k', .string p', .string n', .int .i64 N', .slice q' l' c'] 36)) HB3.out hwb) (.cells #[.int .i64 k3, .string p3, .string n3, .int .i64 N3, .slice q3 l3 c3] 36)) HG4.out (fun e => by have := (HOW.out.lt _ e.symm).1; omega)
      have e1 := hb_grown (hb_alloc (hb_below (hb_alloc J1.out (.cells #[.int .i64 k', .string p', .string n', .int .i64 N', .slice q' l' c'] 36)) HB3.out hwb1) (.cells #[.int .i64 k3, .string p3, .string n3, .int .i64 N3, .slice q3 l3 c3] 36)) HG4.out (fun e => by have := (HOW.out.lt _ e.symm).1; omega)
      have hz4 := HG4.out.size
      have hz3 := HZ3.out
      simp at hz4 hz3
      refine ⟨⟨j + 1, by omega, by go_num, hB4, e0, e1, by omega, ?_⟩, by simp [intOf]; omega⟩
      rw [HT.out]
      exact Made.next HLL.out (HOW.out.alloc _) (fun i y hy => by
        obtain ⟨t, h1, h2⟩ := HD.out i y hy
        exact ⟨t, h1, h2.below (below_alloc _ _)⟩) (by omega) HB3.out HX3.out (w3.alloc (.cells #[.int .i64 k3, .string p3, .string n3, .int .i64 N3, .slice q3 l3 c3] 36)) (fun b hb => Below.heap_alloc w3 _ b hb) (by simp) (by rw [flatC_snoc]; exact HO4.out) HG4.out HBLK.out
    · obtain rfl : j = kids.length := by omega
      obtain ⟨qs, cs, rfl⟩ := hmade.shape
      have HM := Lib.hid hmade
      have x0 := hb_at h0 0 rfl
      have x1 := hb_at h0 1 rfl
      have x2 := hb_at h0 2 rfl
      have x3 := hb_at h0 3 rfl
      have x4 := hb_at h0 4 rfl
      have f4 := hb_free h0 4
      have y0 := hb_at h1 0 rfl
      have y1 := hb_at h1 1 rfl
      have y2 := hb_at h1 2 rfl
      have y3 := hb_at h1 3 rfl
      have y4 := hb_at h1 4 rfl
      have g0 := hb_free h1 0
      have g1 := hb_free h1 1
      have g2 := hb_free h1 2
      have g3 := hb_free h1 3
      have g4 := hb_free h1 4
      clear hbl h0 h1 hmade
      go_wp2
      have hM : Made (w.heap.size + 2) wr d (.slice qs kids.length cs) kids := by
        have h := HM.out
        rwa [List.take_length] at h
      refine bodyPost_ret (v := tv k p n N (.slice qs kids.length cs)) (by simp [results, Tryd.results92, go_sem, y0, y1, y2, y3, y4]) rfl ⟨_, rfl, ?_, ((((((HBL.out.setCell (by simp) _).setCell (by simp) _).setCell (by simp) _).setCell (by simp) _).setCell (by simp) _).setCell (by simp) _)⟩
      refine (hM.all hkm fun b hb => ?_).mono fun b hb => by omega
      rw [Below.heap_setCell _ _ _ b (by show b ≠ w.heap.size + 1; omega), Below.heap_setCell _ _ _ b (by show b ≠ w.heap.size + 1; omega), Below.heap_setCell _ _ _ b (by show b ≠ w.heap.size + 1; omega), Below.heap_setCell _ _ _ b (by show b ≠ w.heap.size + 1; omega), Below.heap_setCell _ _ _ b (by show b ≠ w.heap.size + 1; omega), Below.heap_setCell _ _ _ b (by show b ≠ w.heap.size; omega)]
set_option maxRecDepth 100000 in
theorem tclone_any : ∀ d, CloneR d := by
  intro d
  induction d with
  | zero => intro v t w h; cases h
  | succ d ih =>
    intro v t w h hs
    obtain ⟨k, p, n, N, kids⟩ := t
    obtain ⟨q, c, rfl, hp, hn, hkm, hK⟩ := h
    have HW := Lib.hid (withKids49 d ih k p n N kids (.slice q kids.length c))
    have HKT : RowKit.Hid (KidsT w d (.slice q kids.length c) kids) := Lib.hid ⟨q, c, rfl, hkm, hK⟩
    have HS1 := Lib.hid hs.1
    have HS2 := Lib.hid hs.2
    have HP := Lib.hid hp
    have HN := Lib.hid hn
    have HB0 := Lib.hid (below2 w (.cells #[.int .i64 k, .string p, .string n, .int .i64 N, .slice q kids.length c] 36) (.cells #[.int .i64 0, .string ⟨#[]⟩, .string ⟨#[]⟩, .int .i64 0, .slice none 0 0] 36))
    have hb1 := hb_new (w.alloc (.cells #[.int .i64 k, .string p, .string n, .int .i64 N, .slice q kids.length c] 36)) (.cells #[.int .i64 0, .string ⟨#[]⟩, .string ⟨#[]⟩, .int .i64 0, .slice none 0 0] 36)
    rw [World.size_alloc] at hb1
    have K1 := Lib.hid hb1
    clear hK hs hp hn hb1
    go_enter Tryd.func91, Tryd.ntmps91
    go_wp2_with (go_at_call 92; refine (HW.out _ (HKT.out.below HB0.out) HS1.out HS2.out).mono ?_; rintro e w3 ⟨s3, rfl, hx3, hb3⟩; have HX3 := Lib.hid hx3; obtain ⟨q3, c3, rfl, _, _⟩ := hx3; have h1 := hb_below K1.out hb3 (by simp); have y0 := hb_at h1 0 rfl; have y1 := hb_at h1 1 rfl; have y2 := hb_at h1 2 rfl; have y3 := hb_at h1 3 rfl; have y4 := hb_at h1 4 rfl; have g0 := hb_free h1 0; have g1 := hb_free h1 1; have g2 := hb_free h1 2; have g3 := hb_free h1 3; have g4 := hb_free h1 4; have HB3 := Lib.hid hb3; clear hb3 h1)
    have hB3 : Below w.heap.size w w3 := HB0.out.trans (HB3.out.mono HB0.out.size)
    refine bodyPost_ret (v := tv k p n N (.slice q3 kids.length c3)) (by simp [results, Tryd.results91, go_sem, y0, y1, y2, y3, y4]) rfl ⟨_, rfl, ?_, (((((hB3.setCell (by simp) _).setCell (by simp) _).setCell (by simp) _).setCell (by simp) _).setCell (by simp) _)⟩
    obtain ⟨q4, c4, e4, h4, h5⟩ := HX3.out.move (Y := fun b => w.heap.size ≤ b) (w' := ((((w3.setCell ⟨w.heap.size + 1, 0, none⟩ (.int .i64 k)).setCell ⟨w.heap.size + 1, 1, none⟩ (.string p)).setCell ⟨w.heap.size + 1, 2, none⟩ (.string n)).setCell ⟨w.heap.size + 1, 3, none⟩ (.int .i64 N)).setCell ⟨w.heap.size + 1, 4, none⟩ (.slice q3 kids.length c3)) fun b hb => by
      simp at hb
      refine ⟨by omega, ?_⟩
      rw [Below.heap_setCell _ _ _ b (by show b ≠ w.heap.size + 1; omega), Below.heap_setCell _ _ _ b (by show b ≠ w.heap.size + 1; omega), Below.heap_setCell _ _ _ b (by show b ≠ w.heap.size + 1; omega), Below.heap_setCell _ _ _ b (by show b ≠ w.heap.size + 1; omega), Below.heap_setCell _ _ _ b (by show b ≠ w.heap.size + 1; omega)]
    exact ⟨q4, c4, by rw [e4], HP.out, HN.out, h4, h5⟩
end Go.Proofs.YtncebhddcokkoaaDoor
/- withKids of the closure that puts types in the place of variables. -/
namespace Go.Proofs.YtncebhddcokkoaaDoor
open Go.RowKit
/-- What the closure makes of each term (at most d deep), wherever what it has is as in w0: F of it, at most d2 deep, in new blocks. -/
def PutR (Bm Bb Bp d d2 : Nat) (F : Tm → Tm) (w0 : World) : Prop := ∀ (v : Value) (t : Tm) (w : World), Below w0.heap.size w0 w → IsT w d v t → Sm d t → Calls Tryd.prog 90 #[v, .pointer (some ⟨Bm, 0, none⟩), .pointer (some ⟨Bb, 0, none⟩), .pointer (some ⟨Bp, 0, none⟩)] w fun e w' => ∃ v', e = .returned v' ∧ IsX (fun b => w.heap.size ≤ b) w' d2 v' (F t) ∧ Below w.heap.size w w'
set_option maxRecDepth 100000 in
set_option maxHeartbeats 4000000 in
theorem withKids48 (Bm Bb Bp : Nat) (d d2 : Nat) (F : Tm → Tm) (k : Int) (p n : ByteArray) (N : Int) (kids : List Tm) (s : Value) (w : World) (HR : PutR Bm Bb Bp d d2 F w) (hk : KidsT w d s kids) (hl : kids.length ≤ 100000) (hsm : ∀ x ∈ kids, Sm d x) :
    Calls Tryd.prog 92 #[tv k p n N s, .func (.func 90) #[] #[.pointer (some ⟨Bm, 0, none⟩), .pointer (some ⟨Bb, 0, none⟩), .pointer (some ⟨Bp, 0, none⟩)]] w fun e w' => ∃ s', e = .returned (tv k p n N s') ∧ KidsX (fun b => w.heap.size ≤ b) w' d2 s' (kids.map F) ∧ Below w.heap.size w w' := by
  obtain ⟨q1, c1, rfl, hkm, hK⟩ := hk
  have HK := Lib.hid hK
  have HSM := Lib.hid hsm
  have HR2 := Lib.hid HR
  obtain ⟨z, hz, hzc⟩ := info24
  obtain ⟨i0, hi, hz0, hz1, hz2⟩ := info_parts hz
  have HI := Lib.hid hi
  have HZ0 := Lib.hid hz0
  have HZ1 := Lib.hid hz1
  have HZ2 := Lib.hid hz2
  have HZC := Lib.hid hzc
  clear hK hsm HR hi hz0 hz1 hz2 hzc hz
  have hB0 := below2 w (.cells #[.int .i64 k, .string p, .string n, .int .i64 N, .slice q1 kids.length c1] 36) (.cells #[.int .i64 0, .string ⟨#[]⟩, .string ⟨#[]⟩, .int .i64 0, .slice none 0 0] 36)
  have hb0 := hb_alloc (hb_new w (.cells #[.int .i64 k, .string p, .string n, .int .i64 N, .slice q1 kids.length c1] 36)) (.cells #[.int .i64 0, .string ⟨#[]⟩, .string ⟨#[]⟩, .int .i64 0, .slice none 0 0] 36)
  have hb1 := hb_new (w.alloc (.cells #[.int .i64 k, .string p, .string n, .int .i64 N, .slice q1 kids.length c1] 36)) (.cells #[.int .i64 0, .string ⟨#[]⟩, .string ⟨#[]⟩, .int .i64 0, .slice none 0 0] 36)
  rw [World.size_alloc] at hb1
  have HB0 := Lib.hid hB0
  have K0 := Lib.hid hb0
  have K1 := Lib.hid hb1
  clear hB0 hb0 hb1
  go_enter Tryd.func92, Tryd.ntmps92
  go_wp2
  go_loopw [5, 11] (fun sv i wr => ∃ j : Nat, j ≤ kids.length ∧ i = .int .i64 j ∧ Below w.heap.size w wr ∧ wr.heap[w.heap.size]? = some (.cells #[.int .i64 k, .string p, .string n, .int .i64 N, .slice q1 kids.length c1] 36 (0, 0)) ∧ wr.heap[w.heap.size + 1]? = some (.cells #[.int .i64 0, .string ⟨#[]⟩, .string ⟨#[]⟩, .int .i64 0, .slice none 0 0] 36 (0, 0)) ∧ w.heap.size + 2 ≤ wr.heap.size ∧ Made (w.heap.size + 2) wr d2 sv ((kids.take j).map F)) (fun _ i _ => kids.length - (intOf i).toNat)
  case atStart => exact ⟨0, Nat.zero_le _, rfl, HB0.out, K0.out, K1.out, by simp, Made.nil _ _ _⟩
  case round =>
    obtain ⟨j, hj, rfl, hbl, h0, h1, hsz, hmade⟩ := hrel
    have HBL := Lib.hid hbl
    have J0 := Lib.hid h0
    have J1 := Lib.hid h1
    by_cases hlt : j < kids.length
    · obtain ⟨l, hll, hown, hd⟩ := hmade
      have hjx : kids[j]? = some kids[j] := List.getElem?_eq_getElem hlt
      have HT : RowKit.Hid (kids.take (j + 1) = kids.take j ++ [kids[j]]) := Lib.hid (List.take_succ_eq_append_getElem hlt)
      have HSJ := Lib.hid (HSM.out kids[j] (List.getElem_mem hlt))
      have hlj : l.length = j := by rw [hll, List.length_map, List.length_take]; omega
      have HLL := Lib.hid hll
      have HLJ := Lib.hid hlj
      have HOW := Lib.hid hown
      have HD := Lib.hid hd
      obtain ⟨b, o, k', p', n', N', s', rfl, ta, it⟩ := HK.out j kids[j] hjx
      obtain ⟨m1, _, _, _, _, _, _, _, _, hveq, _, _, hks⟩ := it.open
      cases hveq
      obtain ⟨q', l', c', rfl⟩ := hks.slice
      have hta := ta.below hbl ta.lt
      have hitb := it.below hbl
      have HIT := Lib.hid hitb
      obtain ⟨y0, y1, y2, y3, y4⟩ := hta
      generalize kids[j] = x at *
      have HC := Lib.hid (HR2.out (tv k' p' n' N' (.slice q' l' c')) x (wr.alloc (.cells #[.int .i64 k', .string p', .string n', .int .i64 N', .slice q' l' c'] 36)) (HBL.out.alloc HBL.out.size _) (HIT.out.below (below_alloc _ _)) HSJ.out)
      have hki : (j : Int) < (kids.length : Int) := by omega
      clear hbl h0 h1 hll hown hd hjx ta it hks hitb hlj
      go_wp2_with (first
        | (go_at_call 90; refine HC.out.mono ?_; rintro e w3 ⟨v3, rfl, hx3, hb3⟩; obtain ⟨k3, p3, n3, N3, q3, l3, c3, rfl⟩ := hx3.shape; have HX3 := Lib.hid hx3; have HB3 := Lib.hid hb3; have OW3 := Lib.hid (own_below (HOW.out.alloc _) hb3); have HZ3 := Lib.hid hb3.size; clear hx3 hb3)
        | (at_builtin; refine wpList_append_own_at _ rfl _ _ 34 rfl (w.heap.size + 2) 36 i0 z 5 72 Tryd.underlying34 HI.out HZ0.out HZ1.out HZ2.out HZC.out (by decide) _ l.length (flatC l) rfl (OW3.out.alloc _) ⟨w3.heap.size, 0, none⟩ 1 1 [.int .i64 k3, .string p3, .string n3, .int .i64 N3, .slice q3 l3 c3] rfl rfl (fun j u hu => (by
            rw [add_zero_none]
            match j, hu with
            | 0, hu => cases hu; exact hb_at (hb_new w3 _) 0 rfl
            | 1, hu => cases hu; exact hb_at (hb_new w3 _) 1 rfl
            | 2, hu => cases hu; exact hb_at (hb_new w3 _) 2 rfl
            | 3, hu => cases hu; exact hb_at (hb_new w3 _) 3 rfl
            | 4, hu => cases hu; exact hb_at (hb_new w3 _) 4 rfl
            | j + 5, hu => simp at hu)) (by simp [Value.oneCell']) (by have := HLJ.out; unfold maxLen; omega) (by have := HLJ.out; omega) (by have := HZ3.out; simp at this; simp; omega) ?_; intro v4 w4 ho4 hg4 _ hblk4; have HO4 := Lib.hid ho4; have HG4 := Lib.hid hg4; have HBLK := Lib.hid hblk4; clear ho4 hg4 hblk4))
      have hwb : w.heap.size < (wr.alloc (.cells #[.int .i64 k', .string p', .string n', .int .i64 N', .slice q' l' c'] 36)).heap.size := by simp; omega
      have hwb1 : w.heap.size + 1 < (wr.alloc (.cells #[.int .i64 k', .string p', .string n', .int .i64 N', .slice q' l' c'] 36)).heap.size := by simp; omega
      have hB1 := HBL.out.alloc HBL.out.size (.cells #[.int .i64 k', .string p', .string n', .int .i64 N', .slice q' l' c'] 36)
      have hB3 := hB1.trans (HB3.out.mono hB1.size)
      have hB5 := hB3.alloc hB3.size (.cells #[.int .i64 k3, .string p3, .string n3, .int .i64 N3, .slice q3 l3 c3] 36)
      have hB4 := hB5.grown HG4.out hB5.size (fun g hg => by have := (HOW.out.lt g hg).1; omega)
      have e0 := hb_grown (hb_alloc (hb_below (hb_alloc J0.out (.cells #[.int .i64 k', .string p', .string n', .int .i64 N', .slice q' l' c'] 36)) HB3.out hwb) (.cells #[.int .i64 k3, .string p3, .string n3, .int .i64 N3, .slice q3 l3 c3] 36)) HG4.out (fun e => by have := (HOW.out.lt _ e.symm).1; omega)
      have e1 := hb_grown (hb_alloc (hb_below (hb_alloc J1.out (.cells #[.int .i64 k', .string p', .string n', .int .i64 N', .slice q' l' c'] 36)) HB3.out hwb1) (.cells #[.int .i64 k3, .string p3, .string n3, .int .i64 N3, .slice q3 l3 c3] 36)) HG4.out (fun e => by have := (HOW.out.lt _ e.symm).1; omega)
      have hz4 := HG4.out.size
      have hz3 := HZ3.out
      simp at hz4 hz3
      refine ⟨⟨j + 1, by omega, by go_num, hB4, e0, e1, by omega, ?_⟩, by simp [intOf]; omega⟩
      rw [HT.out, List.map_append]
      exact Made.next HLL.out (HOW.out.alloc _) (fun i y hy => by
        obtain ⟨t, h1, h2⟩ := HD.out i y hy
        exact ⟨t, h1, h2.below (below_alloc _ _)⟩) (by omega) HB3.out HX3.out (w3.alloc (.cells #[.int .i64 k3, .string p3, .string n3, .int .i64 N3, .slice q3 l3 c3] 36)) (fun b hb => Below.heap_alloc w3 _ b hb) (by simp) (by rw [flatC_snoc]; exact HO4.out) HG4.out HBLK.out
    · obtain rfl : j = kids.length := by omega
      obtain ⟨qs, cs, rfl⟩ := hmade.shape
      have HM := Lib.hid hmade
      have x0 := hb_at h0 0 rfl
      have x1 := hb_at h0 1 rfl
      have x2 := hb_at h0 2 rfl
      have x3 := hb_at h0 3 rfl
      have x4 := hb_at h0 4 rfl
      have f4 := hb_free h0 4
      have y0 := hb_at h1 0 rfl
      have y1 := hb_at h1 1 rfl
      have y2 := hb_at h1 2 rfl
      have y3 := hb_at h1 3 rfl
      have y4 := hb_at h1 4 rfl
      have g0 := hb_free h1 0
      have g1 := hb_free h1 1
      have g2 := hb_free h1 2
      have g3 := hb_free h1 3
      have g4 := hb_free h1 4
      clear hbl h0 h1 hmade
      go_wp2
      have hM : Made (w.heap.size + 2) wr d2 (.slice qs kids.length cs) (kids.map F) := by
        have h := HM.out
        rwa [List.length_map, List.take_length] at h
      refine bodyPost_ret (v := tv k p n N (.slice qs kids.length cs)) (by simp [results, Tryd.results92, go_sem, y0, y1, y2, y3, y4]) rfl ⟨_, rfl, ?_, ((((((HBL.out.setCell (by simp) _).setCell (by simp) _).setCell (by simp) _).setCell (by simp) _).setCell (by simp) _).setCell (by simp) _)⟩
      refine (hM.all (by rw [List.length_map]; exact hkm) fun b hb => ?_).mono fun b hb => by omega
      rw [Below.heap_setCell _ _ _ b (by show b ≠ w.heap.size + 1; omega), Below.heap_setCell _ _ _ b (by show b ≠ w.heap.size + 1; omega), Below.heap_setCell _ _ _ b (by show b ≠ w.heap.size + 1; omega), Below.heap_setCell _ _ _ b (by show b ≠ w.heap.size + 1; omega), Below.heap_setCell _ _ _ b (by show b ≠ w.heap.size + 1; omega), Below.heap_setCell _ _ _ b (by show b ≠ w.heap.size; omega)]
end Go.Proofs.YtncebhddcokkoaaDoor
/- Maps of places: for each text where it first stands, if it does. -/
namespace Go.Proofs.YtncebhddcokkoaaDoor
open Go.RowKit Go.Maps
def PMap (w : World) (M n : Nat) (g : ByteArray → Option Int) : Prop := ∃ D : DataW Unit, w.ownsMap Tryd.prog 9 (plainElem Tryd.prog 3) M n D ∧ ∀ s : ByteArray, D.atKey (.string s.data.toList) (.lit (.int .i64 0)) = .lit (.int .i64 ((g s).getD 0)) ∧ Maps.has D (.string s.data.toList) = (g s).isSome
section
variable {w w' : World} {M n : Nat} {g : ByteArray → Option Int}
theorem PMap.lt (h : PMap w M n g) : M < w.heap.size := h.elim fun _ h => h.1.lt
theorem PMap.same (h : PMap w M n g) (hb : w'.heap[M]? = w.heap[M]?) : PMap w' M n g := by
  obtain ⟨D, ⟨es, clock, h1, h2⟩, h3⟩ := h
  exact ⟨D, ⟨es, clock, hb.trans h1, h2⟩, h3⟩
theorem PMap.below (h : PMap w M n g) (hb : Below w.heap.size w w') : PMap w' M n g := h.same (hb.block M h.lt)
theorem PMap.heap (h : PMap w M n g) : ∃ es clock, w.heap[M]? = some (.map es clock) := by
  obtain ⟨D, ⟨es, clock, hb, _⟩, _⟩ := h
  exact ⟨es, clock, hb⟩
theorem PMap.made (w : World) : PMap (w.alloc (.map #[] 0)) w.heap.size 0 fun _ => none := ⟨_, World.ownsMap_made w _ _ _, fun _ => ⟨rfl, rfl⟩⟩
theorem PMap.look (h : PMap w M n g) (s : ByteArray) (hs : s.size ≤ maxLen) : (Instr.lookup 83 (.map (some M)) (.string s) true).run Tryd.prog w = .ok (.tuple #[.int .i64 ((g s).getD 0), .bool (g s).isSome]) w := by
  obtain ⟨D, hD, hg⟩ := h
  obtain ⟨v, ps, hrun, hv⟩ := hD.look_ok K9 Tryd.underlying83 (zero3 w) (zd := .lit (.int .i64 0)) (zp := []) (plainElem_int Tryd.underlying3 (by decide)) (key9 s hs)
  obtain ⟨c, rfl, hc, _⟩ := plainElem_int_inv Tryd.underlying3 hv
  simp only [Prod.mk.injEq] at hc
  rw [(hg s).1] at hc
  have e : (g s).getD 0 = c := by simpa using hc.1
  rw [hrun, (hg s).2, e]
theorem PMap.put (h : PMap w M n g) (hn : n < maxLen) (s : ByteArray) (hs : s.size ≤ maxLen) (x : Int) (hx : (Lit.int .i64 x).wf = true) :
    ∃ w', (Instr.mapUpdate 83 (.map (some M)) (.string s) (.int .i64 x)).run Tryd.prog w = .ok () w' ∧ PMap w' M (n + 1) (fun t => if t = s then some x else g t) ∧ w.mapTurned w' M := by
  obtain ⟨D, hD, hg⟩ := h
  obtain ⟨w', hrun, h1, h2⟩ := hD.store K9 Tryd.underlying83 hn (val := .int .i64 x) (d := .lit (.int .i64 x)) (ps := []) (key9 s hs) (plainElem_int Tryd.underlying3 hx)
  refine ⟨w', hrun, ⟨_, h1, fun t => ?_⟩, h2⟩
  have hK : WideAt.IsKeyLit (.string s.data.toList) := trivial
  dsimp only
  by_cases e : t = s
  · rw [if_pos e, e]
    exact ⟨atKey_put_same hD.isMap hK _ _, has_put_same hD.isMap hK _⟩
  · rw [if_neg e]
    exact ⟨(atKey_put_other (lit_ne e) _ _).trans (hg t).1, by rw [has_put_other (lit_ne e)]; exact (hg t).2⟩
variable {ops : Array Oper} {rest : List Oper} {o : Oper} {a : Act} {Q : Exit → Act → World → Prop}
theorem wpList_pm_look (hg : o.guard = none) (m x : Operand) (hop : o.op = Op.lookup 83 m x true) (hm : a.eval m = .map (some M)) (h : PMap w M n g) (s : ByteArray) (hx : a.eval x = .string s) (hs : s.size ≤ maxLen)
    (i : Int) (b : Bool) (hi : (g s).getD 0 = i) (hb : (g s).isSome = b) (hK : wpList Tryd.prog ops Q rest (a.put o.dst (.tuple #[.int .i64 i, .bool b])) w) : wpList Tryd.prog ops Q (o :: rest) a w := by
  refine wpList_plain hg fun K' hK' => ?_
  unfold Oper.wp
  simp [execOp, hop, hm, hx, h.look s hs, Result.andThen]
  rw [hi, hb]
  exact hK' _ _ hK
theorem wpList_pm_put (hg : o.guard = none) (m x v : Operand) (hop : o.op = Op.mapUpdate 83 m x v) (hm : a.eval m = .map (some M)) (h : PMap w M n g) (hn : n < maxLen) (s : ByteArray) (hx : a.eval x = .string s) (hs : s.size ≤ maxLen)
    (y : Int) (hy : (Lit.int .i64 y).wf = true) (hv : a.eval v = .int .i64 y) (hK : ∀ w', PMap w' M (n + 1) (fun t => if t = s then some y else g t) → w.mapTurned w' M → wpList Tryd.prog ops Q rest (a.put o.dst undef) w') : wpList Tryd.prog ops Q (o :: rest) a w := by
  refine wpList_plain hg fun K' hK' => ?_
  obtain ⟨w', hrun, h1, h2⟩ := h.put hn s hs y hy
  unfold Oper.wp
  simp [execOp, hop, hm, hx, hv, hrun, Result.andThen]
  exact hK' _ _ (hK w' h1 h2)
end
end Go.Proofs.YtncebhddcokkoaaDoor
