/- Texts in a row: Va Vb Vc Vd. -/
import Derived.Test.YtmkjalnlldpdcaaGreatDoorZT22
import Derived.Test.YtmkjalnlldpdcaaGreatDoorZT18
import Derived.Test.YtmkjalnlldpdcaaGreatDoorZT12
set_option maxHeartbeats 16000000
set_option maxRecDepth 100000
namespace Go.Proofs.YtmkjalnlldpdcaaGreatDoor
open Go.RowKit
set_option linter.unusedSimpArgs false
set_option linter.unusedVariables false
theorem ofL_app9 (a : List UInt8) (s : ByteArray) : ofL a ++ s = ofL (a ++ s.data.toList) := by
 apply ByteArray.ext
 simp [ofL]
def RowS9 (w : World) (v : Value) (ss : List ByteArray) : Prop := ∃ q c, v = .slice q ss.length c ∧ ss.length ≤ 100000 ∧ ∀ i x, ss[i]? = some x → ∃ g o, q = some ⟨g, o, none⟩ ∧ w.cell? ⟨g, o + i, none⟩ = some (.string x)
theorem RowS9.below {w w' : World} {v : Value} {ss : List ByteArray} (h : RowS9 w v ss) (hb : Below w.heap.size w w') : RowS9 w' v ss := by
 obtain ⟨q, c, e, hm, hr⟩ := h
 refine ⟨q, c, e, hm, fun i x hx => ?_⟩
 obtain ⟨g, o, e1, e2⟩ := hr i x hx
 exact ⟨g, o, e1, (hb.cell (p := ⟨g, o + i, none⟩) (block_lt_of_cell e2)).trans e2⟩
theorem ofTxS {w wr : World} {v : Value} {ss : List ByteArray} (h : TxS w v ss wr) (hm : ss.length ≤ 100000) : RowS9 wr v ss := by
 rcases h.2.2 with ⟨hv, h0⟩ | ⟨g, cap, cur, hv, hb, hg, hc, r⟩
 · have := List.eq_nil_of_length_eq_zero h0
   subst this
   exact ⟨none, 0, hv, by simp, fun i x hx => by simp at hx⟩
 · refine ⟨_, _, hv, hm, fun i x hx => ⟨g, 0, rfl, ?_⟩⟩
   subst hv
   have := h.2.cells (g := g) rfl i (.string x) (by rw [List.getElem?_map, hx]; rfl)
   rw [Nat.zero_add]
   rw [add_zero_none] at this
   exact this
def tls (ss : List ByteArray) : List (List UInt8) := ss.map (·.data.toList)
theorem tls_nil : tls [] = [] := rfl
theorem tls_take (ss : List ByteArray) (k : Nat) : tls (ss.take k) = (tls ss).take k := by unfold tls; rw [List.map_take]
theorem tls_len (ss : List ByteArray) : (tls ss).length = ss.length := by unfold tls; rw [List.length_map]
theorem all_any (v : Value) (ss : List ByteArray) (w : World) (hv : RowS9 w v ss) (hl : (heldT (tls ss)).length ≤ 1000000000) :
 Calls Tryz.prog 88 #[v] w fun e w' => e = .returned (.string (ofL (heldT (tls ss)))) ∧ w = w' := by
 obtain ⟨q, c, rfl, hm, hr⟩ := hv
 have HR := Hd hr
 have hle : 1 + ((eachT [44, 32] (tls ss)).length + 1) ≤ 1000000000 := by
  have : (heldT (tls ss)).length = 1 + ((eachT [44, 32] (tls ss)).length + 1) := by simp [heldT]; omega
  omega
 clear hr hl
 go_enter Tryz.func88, Tryz.ntmps88
 go_wp2
 go_loopw [3, 4] (fun s i wr => ∃ k : Nat, i = .int .i64 k ∧ k ≤ ss.length ∧ s = .string (ofL (40 :: eachT [44, 32] (tls (ss.take k)))) ∧ w = wr) (fun _ i _ => ss.length - (intOf i).toNat)
 case atStart => exact ⟨0, rfl, Nat.zero_le _, rfl, rfl⟩
 case round =>
  obtain ⟨k, rfl, hk, rfl, rfl⟩ := hrel
  by_cases hlt : k < ss.length
  · have hki : (k : Int) < (ss.length : Int) := by omega
    have hx := List.getElem?_eq_getElem hlt
    generalize ss[k] = x at *
    obtain ⟨g, o, rfl, x0⟩ := HR.out k x hx
    have hnext : tls (ss.take (k + 1)) = tls (ss.take k) ++ [x.data.toList] := by unfold tls; rw [List.take_add_one, hx]; simp
    have hlen : (eachT [44, 32] (tls (ss.take (k + 1)))).length ≤ (eachT [44, 32] (tls ss)).length := by
     have := eachT_take [44, 32] (tls ss) (k + 1)
     rw [tls_take]
     exact this
    have hxs := size_list x
    by_cases hk0 : k = 0
    · subst hk0
      have e0 : ss.take 0 = [] := rfl
      rw [hnext, e0, tls_nil, List.nil_append, eachT_one] at hlen
      have hP : (⟨#[40]⟩ : ByteArray).size + x.size ≤ 1000000000 := by
       have : (⟨#[40]⟩ : ByteArray).size = 1 := rfl
       omega
      have HN := Hd hnext
      clear hnext hlen hx
      have eS : ofL (40 :: eachT [44, 32] (tls (ss.take 0))) = ⟨#[40]⟩ := rfl
      rw [eS]
      simp only [Nat.add_zero] at x0
      go_wp2
      exact ⟨⟨1, rfl, by omega, by
       rw [HN.out, e0, tls_nil, List.nil_append, eachT_one]
       exact congrArg Value.string (ofL_app9 [40] x), trivial⟩, by simp [intOf]; omega⟩
    · have hk1 : (0 : Int) < (k : Int) := by omega
      have hne : tls (ss.take k) ≠ [] := by
       intro h0
       have h1 := congrArg List.length h0
       rw [tls_len, List.length_take] at h1
       simp only [List.length_nil] at h1
       omega
      rw [hnext, eachT_snoc _ hne] at hlen
      simp only [List.length_append, List.length_cons, List.length_nil] at hlen
      have HN := Hd hnext
      have HNE := Hd hne
      have hP1 : (ofL (40 :: eachT [44, 32] (tls (ss.take k)))).size + 2 ≤ 1000000000 := by rw [ofL_size, List.length_cons]; omega
      have hP2 : (ofL (40 :: eachT [44, 32] (tls (ss.take k))) ++ ⟨#[44, 32]⟩).size + x.size ≤ 1000000000 := by rw [ByteArray.size_append, ofL_size, List.length_cons, show (⟨#[44, 32]⟩ : ByteArray).size = 2 from rfl]; omega
      have HE : RowKit.Hid ((ofL (40 :: eachT [44, 32] (tls (ss.take k))) ++ ⟨#[44, 32]⟩) ++ x = ofL (40 :: eachT [44, 32] (tls (ss.take (k + 1))))) := Hd (by
       rw [hnext, eachT_snoc _ hne, ofL_app9, ofL_app9]
       simp)
      clear hnext hlen hx hne
      generalize ofL (40 :: eachT [44, 32] (tls (ss.take k))) = P at *
      go_wp2
      exact ⟨⟨k + 1, by go_num, by omega, congrArg Value.string HE.out, trivial⟩, by simp [intOf]; omega⟩
  · have hki : ¬ (k : Int) < (ss.length : Int) := by omega
    obtain rfl : k = ss.length := by omega
    rw [List.take_length]
    have hP : (ofL (40 :: eachT [44, 32] (tls ss))).size + 1 ≤ 1000000000 := by rw [ofL_size, List.length_cons]; omega
    have hE : ofL (40 :: eachT [44, 32] (tls ss)) ++ ⟨#[41]⟩ = ofL (heldT (tls ss)) := by rw [ofL_app9]; rfl
    have HE := Hd hE
    clear hE hle
    generalize ofL (40 :: eachT [44, 32] (tls ss)) = S at *
    go_wp2
    go_ret
    exact ⟨by rw [← HE.out]; rfl, rfl⟩
theorem named9_any (k : Int) (p n : ByteArray) (N : Int) (q : Option Addr) (ln c : Nat) (v : Value) (ss : List ByteArray) (w : World) (hv : RowS9 w v ss) (hl : (qualT p n ++ (if ss.length = 0 then [] else heldT (tls ss))).length ≤ 1000000000) :
 Calls Tryz.prog 86 #[tv k p n N (.slice q ln c), v] w fun e w' => e = .returned (.string (ofL (qualT p n ++ (if ss.length = 0 then [] else heldT (tls ss))))) ∧ Below w.heap.size w w' := by
 by_cases hp : p = ⟨#[]⟩
 · subst hp
   by_cases hse : ss.length = 0
   · have hX : qualT ⟨#[]⟩ n ++ (if ss.length = 0 then [] else heldT (tls ss)) = (n.data.toList) := by simp [qualT, hse]
     rw [hX] at hl ⊢
     have hns := size_list n
     have hN : n = ofL n.data.toList := by simp [ofL]
     have HN := Hd hN
     clear hN
     obtain ⟨qs, cs, rfl, hms, _⟩ := hv
     rw [hse]
     clear hl hX hse
     go_enter Tryz.func86, Tryz.ntmps86
     go_wp2
     go_ret
     exact ⟨congrArg (fun s => Ending.returned (.string s)) (ofL_back n).symm, below_alloc w _⟩
   · have hX : qualT ⟨#[]⟩ n ++ (if ss.length = 0 then [] else heldT (tls ss)) = ((n.data.toList) ++ heldT (tls ss)) := by simp [qualT, hse]
     rw [hX] at hl ⊢
     have hns := size_list n
     have hN : n = ofL n.data.toList := by simp [ofL]
     have HN := Hd hN
     clear hN
     have hS3 : n.size + (ofL (heldT (tls ss))).size ≤ 1000000000 := by
      rw [HN.out, ofL_size, ofL_size]
      rw [List.length_append] at hl
      omega
     have HF : RowKit.Hid (n ++ ofL (heldT (tls ss)) = ofL ((n.data.toList) ++ heldT (tls ss))) := Hd (by apply ByteArray.ext; simp [ofL])
     have hb1 := below_alloc w (.cells #[.int .i64 k, .string ⟨#[]⟩, .string n, .int .i64 N, .slice q ln c] 24)
     have HA := Hd (all_any v ss _ (hv.below hb1) (by rw [List.length_append] at hl; omega))
     obtain ⟨qs, cs, rfl, hms, _⟩ := hv
     have hgt : (0 : Int) < (ss.length : Int) := by omega
     clear hl hX hb1 hse
     generalize hT : ofL (heldT (tls ss)) = T at *
     have HT := Hd hT
     clear hT
     go_enter Tryz.func86, Tryz.ntmps86
     go_wp2_with (go_at_call 88; refine HA.out.mono ?_; rintro e w1 ⟨rfl, rfl⟩)
     go_ret
     exact ⟨congrArg (fun s => Ending.returned (.string s)) HF.out, below_alloc w _⟩
 · have hpe : ¬ p.toList = [] := fun e => hp (toList_inj Q60)
   by_cases hse : ss.length = 0
   · have hX : qualT p n ++ (if ss.length = 0 then [] else heldT (tls ss)) = ((p.data.toList ++ [46]) ++ n.data.toList) := by simp [qualT, hse, hpe]
     rw [hX] at hl ⊢
     have hns := size_list n
     have hps := size_list p
     have hpb : (p.toList == []) = false := by simpa using hpe
     have hpn : (p.toList != []) = true := by simpa using hpe
     have hpe2 : ¬ p.toList = (⟨#[]⟩ : ByteArray).toList := fun e => hp (toList_inj e)
     clear hp
     have hS1 : p.size + 1 ≤ 1000000000 := by simp at hl; omega
     have hS2 : (p ++ ⟨#[46]⟩).size + n.size ≤ 1000000000 := by rw [ByteArray.size_append, show (⟨#[46]⟩ : ByteArray).size = 1 from rfl]; simp at hl; omega
     have hN : (p ++ ⟨#[46]⟩) ++ n = ofL ((p.data.toList ++ [46]) ++ n.data.toList) := by apply ByteArray.ext; simp [ofL]
     have HN := Hd hN
     clear hN
     obtain ⟨qs, cs, rfl, hms, _⟩ := hv
     rw [hse]
     clear hl hX hse
     go_enter Tryz.func86, Tryz.ntmps86
     go_wp2
     go_ret
     exact ⟨congrArg (fun s => Ending.returned (.string s)) HN.out, below_alloc w _⟩
   · have hX : qualT p n ++ (if ss.length = 0 then [] else heldT (tls ss)) = (((p.data.toList ++ [46]) ++ n.data.toList) ++ heldT (tls ss)) := by simp [qualT, hse, hpe]
     rw [hX] at hl ⊢
     have hns := size_list n
     have hps := size_list p
     have hpb : (p.toList == []) = false := by simpa using hpe
     have hpn : (p.toList != []) = true := by simpa using hpe
     have hpe2 : ¬ p.toList = (⟨#[]⟩ : ByteArray).toList := fun e => hp (toList_inj e)
     clear hp
     have hS1 : p.size + 1 ≤ 1000000000 := by simp at hl; omega
     have hS2 : (p ++ ⟨#[46]⟩).size + n.size ≤ 1000000000 := by rw [ByteArray.size_append, show (⟨#[46]⟩ : ByteArray).size = 1 from rfl]; simp at hl; omega
     have hN : (p ++ ⟨#[46]⟩) ++ n = ofL ((p.data.toList ++ [46]) ++ n.data.toList) := by apply ByteArray.ext; simp [ofL]
     have HN := Hd hN
     clear hN
     have hS3 : ((p ++ ⟨#[46]⟩) ++ n).size + (ofL (heldT (tls ss))).size ≤ 1000000000 := by
      rw [HN.out, ofL_size, ofL_size]
      rw [List.length_append] at hl
      omega
     have HF : RowKit.Hid (((p ++ ⟨#[46]⟩) ++ n) ++ ofL (heldT (tls ss)) = ofL (((p.data.toList ++ [46]) ++ n.data.toList) ++ heldT (tls ss))) := Hd (by rw [HN.out, ofL_app9, ofL_list])
     have hb1 := below_alloc w (.cells #[.int .i64 k, .string p, .string n, .int .i64 N, .slice q ln c] 24)
     have HA := Hd (all_any v ss _ (hv.below hb1) (by rw [List.length_append] at hl; omega))
     obtain ⟨qs, cs, rfl, hms, _⟩ := hv
     have hgt : (0 : Int) < (ss.length : Int) := by omega
     clear hl hX hb1 hse
     generalize hT : ofL (heldT (tls ss)) = T at *
     have HT := Hd hT
     clear hT
     go_enter Tryz.func86, Tryz.ntmps86
     go_wp2_with (go_at_call 88; refine HA.out.mono ?_; rintro e w1 ⟨rfl, rfl⟩)
     go_ret
     exact ⟨congrArg (fun s => Ending.returned (.string s)) HF.out, below_alloc w _⟩
def DocC (K : Nat) (B : Nat → Tm → Bool) (d : Nat) : Prop := ∀ (v : Value) (x : Tm) (W : World), IsT W d v x → B d x = true → Gd d x → tby d x ≤ 12000 → Calls Tryz.prog K #[v] W fun e w' => e = .returned (.string (ofL (txt d x))) ∧ Below W.heap.size W w'
theorem typs9_any (d : Nat) (HD : DocC 30 typeB d) (s : Value) (kids : List Tm) (w : World) (hk : KidsT w d s kids) (hB : ∀ x ∈ kids, typeB d x = true) (hG : ∀ x ∈ kids, Gd d x) (ht : ∀ x ∈ kids, tby d x ≤ 12000) (hlen : kids.length ≤ 12000) :
 Calls Tryz.prog 87 #[s] w fun e w' => ∃ v, e = .returned v ∧ TxS w v (kids.map fun y => ofL (txt d y)) w' := by
 obtain ⟨q, c, rfl, hm, hr⟩ := hk
 unfold maxLen at hm
 have HR := Hd hr
 have HDC := Hd HD
 have HB := Hd hB
 have HG := Hd hG
 have HTb := Hd ht
 clear hr hB hG ht HD
 obtain ⟨i0, hi, hz0, hz1, hz2⟩ := info_parts info9
 have HI := Hd hi
 have HZ0 := Hd hz0
 have HZ1 := Hd hz1
 have HZ2 := Hd hz2
 clear hi hz0 hz1 hz2
 go_enter Tryz.func87, Tryz.ntmps87
 go_wp2
 go_loopw [3, 4] (fun u i wr => ∃ k : Nat, i = .int .i64 k ∧ k ≤ kids.length ∧ TxS w u ((kids.take k).map fun y => ofL (txt d y)) wr) (fun _ i _ => kids.length - (intOf i).toNat)
 case atStart => exact ⟨0, rfl, Nat.zero_le _, ⟨Below.refl _ _, World.ownsRow_nil _ _ _ _⟩⟩
 case round =>
  obtain ⟨k, rfl, hk, hT⟩ := hrel
  have HT := Hd hT
  have hws := hT.1.size
  obtain ⟨ao, cap, hsh⟩ := hT.shape
  have hln : ((kids.take k).map fun y => ofL (txt d y)).length = k := by rw [List.length_map, List.length_take]; omega
  rw [hln] at hsh
  subst hsh
  have HLN := Hd hln
  clear hT hln
  by_cases hlt : k < kids.length
  · have hki : (k : Int) < (kids.length : Int) := by omega
    have hx := List.getElem?_eq_getElem hlt
    generalize kids[k] = x at *
    have hxm : x ∈ kids := List.mem_of_getElem? hx
    obtain ⟨g, o, k1, p1, n1, N1, s1, rfl, ha, ht⟩ := HR.out k x hx
    obtain ⟨q3, l3, c3, rfl⟩ := ht.spell
    obtain ⟨x0, x1, x2, x3, x4⟩ := ha.below HT.out.1 ha.lt
    have HC := Hd (HDC.out _ x wr (ht.below HT.out.1) (HB.out x hxm) (HG.out x hxm) (HTb.out x hxm))
    have hN1 : ((kids.take (k + 1)).map fun y => ofL (txt d y)) = ((kids.take k).map fun y => ofL (txt d y)) ++ [ofL (txt d x)] := by rw [take_next hx]; simp
    have HN1 := Hd hN1
    clear hN1 ha ht hx hxm
    generalize ((kids.take k).map fun y => ofL (txt d y)) = D at *
    generalize ofL (txt d x) = T at *
    go_wp2_with (first
     | (go_at_call 30; refine HC.out.mono ?_; rintro e w1 ⟨rfl, hb1⟩; have HB1 := Hd hb1; have z1 := hb1.size; clear hb1)
     | (at_builtin; refine (fun h : True → _ => h trivial) ?_))
    intro _
    have hT2 := HT.out.below HB1.out
    have hT3 := hT2.below (below_alloc w1 (.cells #[.string T] 9))
    refine wpList_append_own_at _ rfl _ _ 57 rfl w.heap.size 9 i0 (.string ⟨#[]⟩) 1 16 Tryz.underlying57 HI.out HZ0.out HZ1.out HZ2.out rfl (by decide) _ _ _ rfl hT3.2 ⟨w1.heap.size, 0, none⟩ 1 1 [.string T] rfl rfl (new_cells w1 #[.string T] 9 _ rfl) Q64 (by have := HLN.out; unfold maxLen; omega) (by have := HLN.out; omega) (by have := hT3.1.size; omega) ?_
    intro v4 w4 ho4 hg4 _ _
    have hX4 := hT3.grow ho4 hg4
    have HX4 := Hd hX4
    clear ho4 hg4 hX4 hT2 hT3
    go_wp2
    exact ⟨⟨k + 1, by go_num, by omega, by rw [HN1.out]; exact HX4.out⟩, by simp [intOf]; omega⟩
  · have hki : ¬ (k : Int) < (kids.length : Int) := by omega
    obtain rfl : k = kids.length := by omega
    rw [List.take_length] at HT
    go_wp2
    go_ret
    exact ⟨_, rfl, HT.out⟩
theorem pats9_any (d : Nat) (HD : DocC 33 patB d) (s : Value) (kids : List Tm) (w : World) (hk : KidsT w d s kids) (hB : ∀ x ∈ kids, patB d x = true) (hG : ∀ x ∈ kids, Gd d x) (ht : ∀ x ∈ kids, tby d x ≤ 12000) (hlen : kids.length ≤ 12000) :
 Calls Tryz.prog 94 #[s] w fun e w' => ∃ v, e = .returned v ∧ TxS w v (kids.map fun y => ofL (txt d y)) w' := by
 obtain ⟨q, c, rfl, hm, hr⟩ := hk
 unfold maxLen at hm
 have HR := Hd hr
 have HDC := Hd HD
 have HB := Hd hB
 have HG := Hd hG
 have HTb := Hd ht
 clear hr hB hG ht HD
 obtain ⟨i0, hi, hz0, hz1, hz2⟩ := info_parts info9
 have HI := Hd hi
 have HZ0 := Hd hz0
 have HZ1 := Hd hz1
 have HZ2 := Hd hz2
 clear hi hz0 hz1 hz2
 go_enter Tryz.func94, Tryz.ntmps94
 go_wp2
 go_loopw [3, 4] (fun u i wr => ∃ k : Nat, i = .int .i64 k ∧ k ≤ kids.length ∧ TxS w u ((kids.take k).map fun y => ofL (txt d y)) wr) (fun _ i _ => kids.length - (intOf i).toNat)
 case atStart => exact ⟨0, rfl, Nat.zero_le _, ⟨Below.refl _ _, World.ownsRow_nil _ _ _ _⟩⟩
 case round =>
  obtain ⟨k, rfl, hk, hT⟩ := hrel
  have HT := Hd hT
  have hws := hT.1.size
  obtain ⟨ao, cap, hsh⟩ := hT.shape
  have hln : ((kids.take k).map fun y => ofL (txt d y)).length = k := by rw [List.length_map, List.length_take]; omega
  rw [hln] at hsh
  subst hsh
  have HLN := Hd hln
  clear hT hln
  by_cases hlt : k < kids.length
  · have hki : (k : Int) < (kids.length : Int) := by omega
    have hx := List.getElem?_eq_getElem hlt
    generalize kids[k] = x at *
    have hxm : x ∈ kids := List.mem_of_getElem? hx
    obtain ⟨g, o, k1, p1, n1, N1, s1, rfl, ha, ht⟩ := HR.out k x hx
    obtain ⟨q3, l3, c3, rfl⟩ := ht.spell
    obtain ⟨x0, x1, x2, x3, x4⟩ := ha.below HT.out.1 ha.lt
    have HC := Hd (HDC.out _ x wr (ht.below HT.out.1) (HB.out x hxm) (HG.out x hxm) (HTb.out x hxm))
    have hN1 : ((kids.take (k + 1)).map fun y => ofL (txt d y)) = ((kids.take k).map fun y => ofL (txt d y)) ++ [ofL (txt d x)] := by rw [take_next hx]; simp
    have HN1 := Hd hN1
    clear hN1 ha ht hx hxm
    generalize ((kids.take k).map fun y => ofL (txt d y)) = D at *
    generalize ofL (txt d x) = T at *
    go_wp2_with (first
     | (go_at_call 33; refine HC.out.mono ?_; rintro e w1 ⟨rfl, hb1⟩; have HB1 := Hd hb1; have z1 := hb1.size; clear hb1)
     | (at_builtin; refine (fun h : True → _ => h trivial) ?_))
    intro _
    have hT2 := HT.out.below HB1.out
    have hT3 := hT2.below (below_alloc w1 (.cells #[.string T] 9))
    refine wpList_append_own_at _ rfl _ _ 57 rfl w.heap.size 9 i0 (.string ⟨#[]⟩) 1 16 Tryz.underlying57 HI.out HZ0.out HZ1.out HZ2.out rfl (by decide) _ _ _ rfl hT3.2 ⟨w1.heap.size, 0, none⟩ 1 1 [.string T] rfl rfl (new_cells w1 #[.string T] 9 _ rfl) Q64 (by have := HLN.out; unfold maxLen; omega) (by have := HLN.out; omega) (by have := hT3.1.size; omega) ?_
    intro v4 w4 ho4 hg4 _ _
    have hX4 := hT3.grow ho4 hg4
    have HX4 := Hd hX4
    clear ho4 hg4 hX4 hT2 hT3
    go_wp2
    exact ⟨⟨k + 1, by go_num, by omega, by rw [HN1.out]; exact HX4.out⟩, by simp [intOf]; omega⟩
  · have hki : ¬ (k : Int) < (kids.length : Int) := by omega
    obtain rfl : k = kids.length := by omega
    rw [List.take_length] at HT
    go_wp2
    go_ret
    exact ⟨_, rfl, HT.out⟩
theorem exprs9_any (d : Nat) (HD : DocC 36 exprB d) (s : Value) (kids : List Tm) (w : World) (hk : KidsT w d s kids) (hB : ∀ x ∈ kids, exprB d x = true) (hG : ∀ x ∈ kids, Gd d x) (ht : ∀ x ∈ kids, tby d x ≤ 12000) (hlen : kids.length ≤ 12000) :
 Calls Tryz.prog 98 #[s] w fun e w' => ∃ v, e = .returned v ∧ TxS w v (kids.map fun y => ofL (txt d y)) w' := by
 obtain ⟨q, c, rfl, hm, hr⟩ := hk
 unfold maxLen at hm
 have HR := Hd hr
 have HDC := Hd HD
 have HB := Hd hB
 have HG := Hd hG
 have HTb := Hd ht
 clear hr hB hG ht HD
 obtain ⟨i0, hi, hz0, hz1, hz2⟩ := info_parts info9
 have HI := Hd hi
 have HZ0 := Hd hz0
 have HZ1 := Hd hz1
 have HZ2 := Hd hz2
 clear hi hz0 hz1 hz2
 go_enter Tryz.func98, Tryz.ntmps98
 go_wp2
 go_loopw [3, 4] (fun u i wr => ∃ k : Nat, i = .int .i64 k ∧ k ≤ kids.length ∧ TxS w u ((kids.take k).map fun y => ofL (txt d y)) wr) (fun _ i _ => kids.length - (intOf i).toNat)
 case atStart => exact ⟨0, rfl, Nat.zero_le _, ⟨Below.refl _ _, World.ownsRow_nil _ _ _ _⟩⟩
 case round =>
  obtain ⟨k, rfl, hk, hT⟩ := hrel
  have HT := Hd hT
  have hws := hT.1.size
  obtain ⟨ao, cap, hsh⟩ := hT.shape
  have hln : ((kids.take k).map fun y => ofL (txt d y)).length = k := by rw [List.length_map, List.length_take]; omega
  rw [hln] at hsh
  subst hsh
  have HLN := Hd hln
  clear hT hln
  by_cases hlt : k < kids.length
  · have hki : (k : Int) < (kids.length : Int) := by omega
    have hx := List.getElem?_eq_getElem hlt
    generalize kids[k] = x at *
    have hxm : x ∈ kids := List.mem_of_getElem? hx
    obtain ⟨g, o, k1, p1, n1, N1, s1, rfl, ha, ht⟩ := HR.out k x hx
    obtain ⟨q3, l3, c3, rfl⟩ := ht.spell
    obtain ⟨x0, x1, x2, x3, x4⟩ := ha.below HT.out.1 ha.lt
    have HC := Hd (HDC.out _ x wr (ht.below HT.out.1) (HB.out x hxm) (HG.out x hxm) (HTb.out x hxm))
    have hN1 : ((kids.take (k + 1)).map fun y => ofL (txt d y)) = ((kids.take k).map fun y => ofL (txt d y)) ++ [ofL (txt d x)] := by rw [take_next hx]; simp
    have HN1 := Hd hN1
    clear hN1 ha ht hx hxm
    generalize ((kids.take k).map fun y => ofL (txt d y)) = D at *
    generalize ofL (txt d x) = T at *
    go_wp2_with (first
     | (go_at_call 36; refine HC.out.mono ?_; rintro e w1 ⟨rfl, hb1⟩; have HB1 := Hd hb1; have z1 := hb1.size; clear hb1)
     | (at_builtin; refine (fun h : True → _ => h trivial) ?_))
    intro _
    have hT2 := HT.out.below HB1.out
    have hT3 := hT2.below (below_alloc w1 (.cells #[.string T] 9))
    refine wpList_append_own_at _ rfl _ _ 57 rfl w.heap.size 9 i0 (.string ⟨#[]⟩) 1 16 Tryz.underlying57 HI.out HZ0.out HZ1.out HZ2.out rfl (by decide) _ _ _ rfl hT3.2 ⟨w1.heap.size, 0, none⟩ 1 1 [.string T] rfl rfl (new_cells w1 #[.string T] 9 _ rfl) Q64 (by have := HLN.out; unfold maxLen; omega) (by have := HLN.out; omega) (by have := hT3.1.size; omega) ?_
    intro v4 w4 ho4 hg4 _ _
    have hX4 := hT3.grow ho4 hg4
    have HX4 := Hd hX4
    clear ho4 hg4 hX4 hT2 hT3
    go_wp2
    exact ⟨⟨k + 1, by go_num, by omega, by rw [HN1.out]; exact HX4.out⟩, by simp [intOf]; omega⟩
  · have hki : ¬ (k : Int) < (kids.length : Int) := by omega
    obtain rfl : k = kids.length := by omega
    rw [List.take_length] at HT
    go_wp2
    go_ret
    exact ⟨_, rfl, HT.out⟩
theorem tls_ofL (d : Nat) (kids : List Tm) : tls (kids.map fun y => ofL (txt d y)) = kids.map (txt d) := by
 unfold tls
 rw [List.map_map]
 rfl
theorem typ_2 (d : Nat) (HD : DocC 30 typeB d) (p n : ByteArray) (N : Int) (q : Option Addr) (c : Nat) (kids : List Tm) (w : World) (hk : KidsT w d (.slice q kids.length c) kids) (hB : ∀ x ∈ kids, typeB d x = true) (hG : ∀ x ∈ kids, Gd d x) (ht : ∀ x ∈ kids, tby d x ≤ 12000) (hlen : kids.length ≤ 12000)
 (hl : (qualT p n ++ (if kids.length = 0 then [] else heldT (kids.map (txt d)))).length ≤ 1000000000) :
 Calls Tryz.prog 30 #[tv 2 p n N (.slice q kids.length c)] w fun e w' => e = .returned (.string (ofL (qualT p n ++ (if kids.length = 0 then [] else heldT (kids.map (txt d)))))) ∧ Below w.heap.size w w' := by
 have hb0 := below_alloc w (.cells #[.int .i64 2, .string p, .string n, .int .i64 N, .slice q kids.length c] 24)
 have hn0 := hb_new w (.cells #[.int .i64 2, .string p, .string n, .int .i64 N, .slice q kids.length c] 24)
 have hz0 : w.heap.size ≤ (w.alloc (.cells #[.int .i64 2, .string p, .string n, .int .i64 N, .slice q kids.length c] 24)).heap.size := by simp
 have HTY : RowKit.Hid (∀ W, Below (w.alloc (.cells #[.int .i64 2, .string p, .string n, .int .i64 N, .slice q kids.length c] 24)).heap.size (w.alloc (.cells #[.int .i64 2, .string p, .string n, .int .i64 N, .slice q kids.length c] 24)) W → Calls Tryz.prog 87 #[.slice q kids.length c] W fun e w' => ∃ v, e = .returned v ∧ TxS W v (kids.map fun y => ofL (txt d y)) w') :=
  Hd fun W hW => typs9_any d HD _ kids W ((hk.below hb0).below hW) hB hG ht hlen
 have HNM : RowKit.Hid (∀ W v, RowS9 W v (kids.map fun y => ofL (txt d y)) → Calls Tryz.prog 86 #[.agg #[.int .i64 2, .string p, .string n, .int .i64 N, .slice q kids.length c], v] W fun e w' => e = .returned (.string (ofL (qualT p n ++ (if kids.length = 0 then [] else heldT (kids.map (txt d)))))) ∧ Below W.heap.size W w') := Hd fun W v hv => by
  have := named9_any 2 p n N q kids.length c v _ W hv Q54
  rw [List.length_map, tls_ofL] at this
  exact this
 have HLEN : RowKit.Hid ((kids.map fun y => ofL (txt d y)).length ≤ 100000) := Hd Q61
 clear hk hB hG ht hl HD
 generalize qualT p n ++ (if kids.length = 0 then [] else heldT (kids.map (txt d))) = T at *
 generalize (kids.map fun y => ofL (txt d y)) = SS at *
 go_enter Tryz.func30, Tryz.ntmps30
 go_upto_region 5 with (fail)
 obtain ⟨x0, x1, x2, x3, x4⟩ := hb5 hn0
 generalize w.alloc (.cells #[.int .i64 2, .string p, .string n, .int .i64 N, .slice q kids.length c] 24) = wb at *
 clear hn0
 refine wp_region_held_drew (S := (fun w' => RowKit.Hid (Below wb.heap.size wb w') ∧ w'.cell? ⟨w.heap.size, 0, none⟩ = some (.int .i64 2) ∧ w'.cell? ⟨w.heap.size, 1, none⟩ = some (.string p) ∧ w'.cell? ⟨w.heap.size, 2, none⟩ = some (.string n) ∧ w'.cell? ⟨w.heap.size, 3, none⟩ = some (.int .i64 N) ∧ w'.cell? ⟨w.heap.size, 4, none⟩ = some (.slice q kids.length c))) Q70 Q37 (fun hHeld => ?_)
 refine tk 0 13 ?_
 refine tk 1 14 ?_
 refine tk 2 15 ?_
 refine wpAnyH_ready (rs := [3]) Q70 (by simp) ?_
 refine AllReadyH.cons (o := ⟨some 16, _, _, _, _, _⟩) rfl (fun K hK => ?_) AllReadyH.nil
 go_simp
 refine (HTY.out _ hHeld.1.out).mono ?_; rintro e w1 ⟨v1, rfl, hT1⟩; have hb := hT1.1
 go_wp2_with fail
 refine hK.out _ _ Q23 (fun hNew => ?_)
 clear hK K
 clear hHeld hb; have hHeld := hNew; clear hNew
 try simp only [Act.put, List.setIfInBounds_toArray, List.set_cons_zero, List.set_cons_succ]
 refine wpAnyH_ready (rs := [4]) Q70 (by simp) ?_
 refine AllReadyH.cons (o := ⟨some 17, _, _, _, _, _⟩) rfl (fun K hK => ?_) AllReadyH.nil
 go_simp
 refine (HNM.out _ _ (ofTxS hT1 HLEN.out)).mono ?_; rintro e w2 ⟨rfl, hb⟩
 go_wp2_with fail
 refine hK.out _ _ Q23 (fun hNew => ?_)
 clear hK K
 clear hHeld hb; have hHeld := hNew; clear hNew
 try simp only [Act.put, List.setIfInBounds_toArray, List.set_cons_zero, List.set_cons_succ]
 refine tk 5 2 ?_
 refine wpAnyH_done Q70 ?_ _
 go_wp2
 go_ret
 exact ⟨rfl, hb0.trans (hHeld.1.out.mono hz0)⟩
end Go.Proofs.YtmkjalnlldpdcaaGreatDoor
