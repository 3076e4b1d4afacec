/- Texts in a row: Jd Je Jf Jg. -/
import Derived.Test.YtmkjalnlldpdcaaGreatDoorZT19
set_option maxHeartbeats 16000000
set_option maxRecDepth 100000
namespace Go.Proofs.YtmkjalnlldpdcaaGreatDoor
open Go.RowKit
set_option linter.unusedSimpArgs false
set_option linter.unusedVariables false
def Gd : Nat → Tm → Prop
 | 0, _ => True
 | d + 1, .mk _ p n N kids => p.size ≤ 100000 ∧ n.size ≤ 100000 ∧ Fits ⟨4, ⟨#[]⟩, N⟩ ∧ ∀ x ∈ kids, Gd d x
def Judge (K : Nat) (f : Tm → Bool) (d : Nat) : Prop := ∀ (v : Value) (x : Tm) (W : World), IsT W d v x → Gd d x → LxW W → Calls Tryz.prog K #[v] W (Ans (f x) W)
theorem kids_no {f : Tm → Bool} {kids : List Tm} {x : Tm} (hx : x ∈ kids) (hf : f x = false) : kids.all f = false := by
 cases e : kids.all f with
 | false => rfl
 | true =>
  have := List.all_eq_true.1 e x hx
  rw [hf] at this
  cases this
theorem take_all {f : Tm → Bool} {kids : List Tm} {k : Nat} {x : Tm} (hx : kids[k]? = some x) (hP : ∀ y ∈ kids.take k, f y = true) (hf : f x = true) : ∀ y ∈ kids.take (k + 1), f y = true := by
 intro y hy
 rw [take_nextJ hx] at hy
 rcases List.mem_append.1 hy with h | h
 · exact hP y h
 · rw [List.mem_singleton.1 h]; exact hf
theorem areAll_any9 (f : Tm → Bool) (d : Nat) (kids : List Tm) (h : Judge 28 f d) (hG : ∀ x ∈ kids, Gd d x) (s : Value) (w : World) (hw : LxW w) (hk : KidsT w d s kids) : Calls Tryz.prog 79 #[s, .func (.func 28) #[] #[]] w (Ans (kids.all f) w) := by
 obtain ⟨q, c, rfl, hm, hr⟩ := hk
 unfold maxLen at hm
 have HR := Hd hr
 unfold Judge at h
 have HA := Hd h
 have HW := Hd hw
 have HGD := Hd hG
 clear hr h hw hG
 go_enter Tryz.func79, Tryz.ntmps79
 go_wp2
 go_loopw [9] (fun i wr => ∃ k : Nat, k ≤ kids.length ∧ i = .int .i64 k ∧ (∀ x ∈ kids.take k, f x = true) ∧ Below w.heap.size w wr) (fun i _ => kids.length - (intOf i).toNat)
 case atStart => exact ⟨0, Nat.zero_le _, rfl, (fun x hx => by simp at hx), Below.refl _ _⟩
 case round =>
  obtain ⟨k, hk, rfl, hP, hB⟩ := hrel
  have hzr := hB.size
  have HB := Hd hB
  have HP := Hd hP
  clear hP
  by_cases hlt : k < kids.length
  · have hx1 := List.getElem?_eq_getElem hlt
    generalize kids[k] = x at *
    obtain ⟨b1, o1, k1', p1', n1', N1', s1', hq1, ha1, ht1⟩ := HR.out k x hx1
    subst hq1
    obtain ⟨q3, l3, c3, hs3⟩ := ht1.spell
    subst hs3
    obtain ⟨x0, x1, x2, x3, x4⟩ := ha1.below hB ha1.lt
    have hxm : x ∈ kids := List.mem_of_getElem? hx1
    have HC : RowKit.Hid (∀ W, Below wr.heap.size wr W → Calls Tryz.prog 28 #[tv k1' p1' n1' N1' (.slice q3 l3 c3)] W (Ans (f x) W)) :=
     Hd fun W hW => HA.out _ x W ((ht1.below hB).below hW) (HGD.out x hxm) ((HW.out.below hB).below hW)
    have HX := Hd hx1
    have HXM := Hd hxm
    clear hx1 ht1 ha1 hB hxm
    cases hf : f x
    · have HF := Hd hf
      rw [hf] at HC
      clear hf
      go_wp2_with (go_at_call 28; ((with_reducible refine (HC.out _ (below_alloc wr _)).mono ?_); rintro e w3 ⟨rfl, hb⟩))
      have HQ := Hd (HB.out.trans (((below_alloc wr _).trans (hb.mono (by simp))).mono hzr))
      go_ret
      exact ⟨ret_bool (kids_no HXM.out HF.out).symm, HQ.out⟩
    · have HF := Hd hf
      rw [hf] at HC
      clear hf
      go_wp2_with (go_at_call 28; ((with_reducible refine (HC.out _ (below_alloc wr _)).mono ?_); rintro e w3 ⟨rfl, hb⟩))
      have HQ := Hd (HB.out.trans (((below_alloc wr _).trans (hb.mono (by simp))).mono hzr))
      go_roundw
      case rel => exact ⟨k + 1, by omega, by go_num, take_all HX.out HP.out HF.out, HQ.out⟩
      case measure => simp [intOf]; omega
  · obtain rfl : k = kids.length := by omega
    rw [List.take_length] at HP
    go_wp2
    go_ret
    exact ⟨ret_bool (List.all_eq_true.2 HP.out).symm, HB.out⟩
theorem areAll_any11 (f : Tm → Bool) (d : Nat) (kids : List Tm) (h : Judge 31 f d) (hG : ∀ x ∈ kids, Gd d x) (s : Value) (w : World) (hw : LxW w) (hk : KidsT w d s kids) : Calls Tryz.prog 79 #[s, .func (.func 31) #[] #[]] w (Ans (kids.all f) w) := by
 obtain ⟨q, c, rfl, hm, hr⟩ := hk
 unfold maxLen at hm
 have HR := Hd hr
 unfold Judge at h
 have HA := Hd h
 have HW := Hd hw
 have HGD := Hd hG
 clear hr h hw hG
 go_enter Tryz.func79, Tryz.ntmps79
 go_wp2
 go_loopw [9] (fun i wr => ∃ k : Nat, k ≤ kids.length ∧ i = .int .i64 k ∧ (∀ x ∈ kids.take k, f x = true) ∧ Below w.heap.size w wr) (fun i _ => kids.length - (intOf i).toNat)
 case atStart => exact ⟨0, Nat.zero_le _, rfl, (fun x hx => by simp at hx), Below.refl _ _⟩
 case round =>
  obtain ⟨k, hk, rfl, hP, hB⟩ := hrel
  have hzr := hB.size
  have HB := Hd hB
  have HP := Hd hP
  clear hP
  by_cases hlt : k < kids.length
  · have hx1 := List.getElem?_eq_getElem hlt
    generalize kids[k] = x at *
    obtain ⟨b1, o1, k1', p1', n1', N1', s1', hq1, ha1, ht1⟩ := HR.out k x hx1
    subst hq1
    obtain ⟨q3, l3, c3, hs3⟩ := ht1.spell
    subst hs3
    obtain ⟨x0, x1, x2, x3, x4⟩ := ha1.below hB ha1.lt
    have hxm : x ∈ kids := List.mem_of_getElem? hx1
    have HC : RowKit.Hid (∀ W, Below wr.heap.size wr W → Calls Tryz.prog 31 #[tv k1' p1' n1' N1' (.slice q3 l3 c3)] W (Ans (f x) W)) :=
     Hd fun W hW => HA.out _ x W ((ht1.below hB).below hW) (HGD.out x hxm) ((HW.out.below hB).below hW)
    have HX := Hd hx1
    have HXM := Hd hxm
    clear hx1 ht1 ha1 hB hxm
    cases hf : f x
    · have HF := Hd hf
      rw [hf] at HC
      clear hf
      go_wp2_with (go_at_call 31; ((with_reducible refine (HC.out _ (below_alloc wr _)).mono ?_); rintro e w3 ⟨rfl, hb⟩))
      have HQ := Hd (HB.out.trans (((below_alloc wr _).trans (hb.mono (by simp))).mono hzr))
      go_ret
      exact ⟨ret_bool (kids_no HXM.out HF.out).symm, HQ.out⟩
    · have HF := Hd hf
      rw [hf] at HC
      clear hf
      go_wp2_with (go_at_call 31; ((with_reducible refine (HC.out _ (below_alloc wr _)).mono ?_); rintro e w3 ⟨rfl, hb⟩))
      have HQ := Hd (HB.out.trans (((below_alloc wr _).trans (hb.mono (by simp))).mono hzr))
      go_roundw
      case rel => exact ⟨k + 1, by omega, by go_num, take_all HX.out HP.out HF.out, HQ.out⟩
      case measure => simp [intOf]; omega
  · obtain rfl : k = kids.length := by omega
    rw [List.take_length] at HP
    go_wp2
    go_ret
    exact ⟨ret_bool (List.all_eq_true.2 HP.out).symm, HB.out⟩
theorem areAll_any13 (f : Tm → Bool) (d : Nat) (kids : List Tm) (h : Judge 34 f d) (hG : ∀ x ∈ kids, Gd d x) (s : Value) (w : World) (hw : LxW w) (hk : KidsT w d s kids) : Calls Tryz.prog 79 #[s, .func (.func 34) #[] #[]] w (Ans (kids.all f) w) := by
 obtain ⟨q, c, rfl, hm, hr⟩ := hk
 unfold maxLen at hm
 have HR := Hd hr
 unfold Judge at h
 have HA := Hd h
 have HW := Hd hw
 have HGD := Hd hG
 clear hr h hw hG
 go_enter Tryz.func79, Tryz.ntmps79
 go_wp2
 go_loopw [9] (fun i wr => ∃ k : Nat, k ≤ kids.length ∧ i = .int .i64 k ∧ (∀ x ∈ kids.take k, f x = true) ∧ Below w.heap.size w wr) (fun i _ => kids.length - (intOf i).toNat)
 case atStart => exact ⟨0, Nat.zero_le _, rfl, (fun x hx => by simp at hx), Below.refl _ _⟩
 case round =>
  obtain ⟨k, hk, rfl, hP, hB⟩ := hrel
  have hzr := hB.size
  have HB := Hd hB
  have HP := Hd hP
  clear hP
  by_cases hlt : k < kids.length
  · have hx1 := List.getElem?_eq_getElem hlt
    generalize kids[k] = x at *
    obtain ⟨b1, o1, k1', p1', n1', N1', s1', hq1, ha1, ht1⟩ := HR.out k x hx1
    subst hq1
    obtain ⟨q3, l3, c3, hs3⟩ := ht1.spell
    subst hs3
    obtain ⟨x0, x1, x2, x3, x4⟩ := ha1.below hB ha1.lt
    have hxm : x ∈ kids := List.mem_of_getElem? hx1
    have HC : RowKit.Hid (∀ W, Below wr.heap.size wr W → Calls Tryz.prog 34 #[tv k1' p1' n1' N1' (.slice q3 l3 c3)] W (Ans (f x) W)) :=
     Hd fun W hW => HA.out _ x W ((ht1.below hB).below hW) (HGD.out x hxm) ((HW.out.below hB).below hW)
    have HX := Hd hx1
    have HXM := Hd hxm
    clear hx1 ht1 ha1 hB hxm
    cases hf : f x
    · have HF := Hd hf
      rw [hf] at HC
      clear hf
      go_wp2_with (go_at_call 34; ((with_reducible refine (HC.out _ (below_alloc wr _)).mono ?_); rintro e w3 ⟨rfl, hb⟩))
      have HQ := Hd (HB.out.trans (((below_alloc wr _).trans (hb.mono (by simp))).mono hzr))
      go_ret
      exact ⟨ret_bool (kids_no HXM.out HF.out).symm, HQ.out⟩
    · have HF := Hd hf
      rw [hf] at HC
      clear hf
      go_wp2_with (go_at_call 34; ((with_reducible refine (HC.out _ (below_alloc wr _)).mono ?_); rintro e w3 ⟨rfl, hb⟩))
      have HQ := Hd (HB.out.trans (((below_alloc wr _).trans (hb.mono (by simp))).mono hzr))
      go_roundw
      case rel => exact ⟨k + 1, by omega, by go_num, take_all HX.out HP.out HF.out, HQ.out⟩
      case measure => simp [intOf]; omega
  · obtain rfl : k = kids.length := by omega
    rw [List.take_length] at HP
    go_wp2
    go_ret
    exact ⟨ret_bool (List.all_eq_true.2 HP.out).symm, HB.out⟩
theorem types_any (f : Tm → Bool) (d : Nat) (kids : List Tm) (h : Judge 29 f d) (hG : ∀ x ∈ kids, Gd d x) (s : Value) (w : World) (hw : LxW w) (hk : KidsT w d s kids) : Calls Tryz.prog 85 #[s] w (Ans (kids.all f) w) := by
 obtain ⟨q, c, rfl, hm, hr⟩ := hk
 unfold maxLen at hm
 have HR := Hd hr
 unfold Judge at h
 have HA := Hd h
 have HW := Hd hw
 have HGD := Hd hG
 clear hr h hw hG
 go_enter Tryz.func85, Tryz.ntmps85
 go_wp2
 go_loopw [3] (fun i wr => ∃ k : Nat, k ≤ kids.length ∧ i = .int .i64 k ∧ (∀ x ∈ kids.take k, f x = true) ∧ Below w.heap.size w wr) (fun i _ => kids.length - (intOf i).toNat)
 case atStart => exact ⟨0, Nat.zero_le _, rfl, (fun x hx => by simp at hx), Below.refl _ _⟩
 case round =>
  obtain ⟨k, hk, rfl, hP, hB⟩ := hrel
  have hzr := hB.size
  have HB := Hd hB
  have HP := Hd hP
  clear hP
  by_cases hlt : k < kids.length
  · have hki : (k : Int) < (kids.length : Int) := by omega
    have hx1 := List.getElem?_eq_getElem hlt
    generalize kids[k] = x at *
    obtain ⟨b1, o1, k1', p1', n1', N1', s1', hq1, ha1, ht1⟩ := HR.out k x hx1
    subst hq1
    obtain ⟨q3, l3, c3, hs3⟩ := ht1.spell
    subst hs3
    obtain ⟨x0, x1, x2, x3, x4⟩ := ha1.below hB ha1.lt
    have hxm : x ∈ kids := List.mem_of_getElem? hx1
    have HC : RowKit.Hid (Calls Tryz.prog 29 #[tv k1' p1' n1' N1' (.slice q3 l3 c3)] wr (Ans (f x) wr)) :=
     Hd (HA.out _ x wr (ht1.below hB) (HGD.out x hxm) (HW.out.below hB))
    have HX := Hd hx1
    have HXM := Hd hxm
    clear hx1 ht1 ha1 hB hxm
    cases hf : f x
    · have HF := Hd hf
      rw [hf] at HC
      clear hf
      go_wp2_with (go_at_call 29; ((with_reducible refine HC.out.mono ?_); rintro e w3 ⟨rfl, hb⟩))
      have HQ := Hd (HB.out.trans (hb.mono hzr))
      go_ret
      exact ⟨ret_bool (kids_no HXM.out HF.out).symm, HQ.out⟩
    · have HF := Hd hf
      rw [hf] at HC
      clear hf
      go_wp2_with (go_at_call 29; ((with_reducible refine HC.out.mono ?_); rintro e w3 ⟨rfl, hb⟩))
      have HQ := Hd (HB.out.trans (hb.mono hzr))
      go_roundw
      case rel => exact ⟨k + 1, by omega, by go_num, take_all HX.out HP.out HF.out, HQ.out⟩
      case measure => simp [intOf]; omega
  · have hki : ¬ (k : Int) < (kids.length : Int) := by omega
    obtain rfl : k = kids.length := by omega
    rw [List.take_length] at HP
    go_wp2
    go_ret
    exact ⟨ret_bool (List.all_eq_true.2 HP.out).symm, HB.out⟩
theorem pats_any (f : Tm → Bool) (d : Nat) (kids : List Tm) (h : Judge 32 f d) (hG : ∀ x ∈ kids, Gd d x) (s : Value) (w : World) (hw : LxW w) (hk : KidsT w d s kids) : Calls Tryz.prog 91 #[s] w (Ans (kids.all f) w) := by
 obtain ⟨q, c, rfl, hm, hr⟩ := hk
 unfold maxLen at hm
 have HR := Hd hr
 unfold Judge at h
 have HA := Hd h
 have HW := Hd hw
 have HGD := Hd hG
 clear hr h hw hG
 go_enter Tryz.func91, Tryz.ntmps91
 go_wp2
 go_loopw [3] (fun i wr => ∃ k : Nat, k ≤ kids.length ∧ i = .int .i64 k ∧ (∀ x ∈ kids.take k, f x = true) ∧ Below w.heap.size w wr) (fun i _ => kids.length - (intOf i).toNat)
 case atStart => exact ⟨0, Nat.zero_le _, rfl, (fun x hx => by simp at hx), Below.refl _ _⟩
 case round =>
  obtain ⟨k, hk, rfl, hP, hB⟩ := hrel
  have hzr := hB.size
  have HB := Hd hB
  have HP := Hd hP
  clear hP
  by_cases hlt : k < kids.length
  · have hki : (k : Int) < (kids.length : Int) := by omega
    have hx1 := List.getElem?_eq_getElem hlt
    generalize kids[k] = x at *
    obtain ⟨b1, o1, k1', p1', n1', N1', s1', hq1, ha1, ht1⟩ := HR.out k x hx1
    subst hq1
    obtain ⟨q3, l3, c3, hs3⟩ := ht1.spell
    subst hs3
    obtain ⟨x0, x1, x2, x3, x4⟩ := ha1.below hB ha1.lt
    have hxm : x ∈ kids := List.mem_of_getElem? hx1
    have HC : RowKit.Hid (Calls Tryz.prog 32 #[tv k1' p1' n1' N1' (.slice q3 l3 c3)] wr (Ans (f x) wr)) :=
     Hd (HA.out _ x wr (ht1.below hB) (HGD.out x hxm) (HW.out.below hB))
    have HX := Hd hx1
    have HXM := Hd hxm
    clear hx1 ht1 ha1 hB hxm
    cases hf : f x
    · have HF := Hd hf
      rw [hf] at HC
      clear hf
      go_wp2_with (go_at_call 32; ((with_reducible refine HC.out.mono ?_); rintro e w3 ⟨rfl, hb⟩))
      have HQ := Hd (HB.out.trans (hb.mono hzr))
      go_ret
      exact ⟨ret_bool (kids_no HXM.out HF.out).symm, HQ.out⟩
    · have HF := Hd hf
      rw [hf] at HC
      clear hf
      go_wp2_with (go_at_call 32; ((with_reducible refine HC.out.mono ?_); rintro e w3 ⟨rfl, hb⟩))
      have HQ := Hd (HB.out.trans (hb.mono hzr))
      go_roundw
      case rel => exact ⟨k + 1, by omega, by go_num, take_all HX.out HP.out HF.out, HQ.out⟩
      case measure => simp [intOf]; omega
  · have hki : ¬ (k : Int) < (kids.length : Int) := by omega
    obtain rfl : k = kids.length := by omega
    rw [List.take_length] at HP
    go_wp2
    go_ret
    exact ⟨ret_bool (List.all_eq_true.2 HP.out).symm, HB.out⟩
theorem exprs_any (f : Tm → Bool) (d : Nat) (kids : List Tm) (h : Judge 35 f d) (hG : ∀ x ∈ kids, Gd d x) (s : Value) (w : World) (hw : LxW w) (hk : KidsT w d s kids) : Calls Tryz.prog 97 #[s] w (Ans (kids.all f) w) := by
 obtain ⟨q, c, rfl, hm, hr⟩ := hk
 unfold maxLen at hm
 have HR := Hd hr
 unfold Judge at h
 have HA := Hd h
 have HW := Hd hw
 have HGD := Hd hG
 clear hr h hw hG
 go_enter Tryz.func97, Tryz.ntmps97
 go_wp2
 go_loopw [3] (fun i wr => ∃ k : Nat, k ≤ kids.length ∧ i = .int .i64 k ∧ (∀ x ∈ kids.take k, f x = true) ∧ Below w.heap.size w wr) (fun i _ => kids.length - (intOf i).toNat)
 case atStart => exact ⟨0, Nat.zero_le _, rfl, (fun x hx => by simp at hx), Below.refl _ _⟩
 case round =>
  obtain ⟨k, hk, rfl, hP, hB⟩ := hrel
  have hzr := hB.size
  have HB := Hd hB
  have HP := Hd hP
  clear hP
  by_cases hlt : k < kids.length
  · have hki : (k : Int) < (kids.length : Int) := by omega
    have hx1 := List.getElem?_eq_getElem hlt
    generalize kids[k] = x at *
    obtain ⟨b1, o1, k1', p1', n1', N1', s1', hq1, ha1, ht1⟩ := HR.out k x hx1
    subst hq1
    obtain ⟨q3, l3, c3, hs3⟩ := ht1.spell
    subst hs3
    obtain ⟨x0, x1, x2, x3, x4⟩ := ha1.below hB ha1.lt
    have hxm : x ∈ kids := List.mem_of_getElem? hx1
    have HC : RowKit.Hid (Calls Tryz.prog 35 #[tv k1' p1' n1' N1' (.slice q3 l3 c3)] wr (Ans (f x) wr)) :=
     Hd (HA.out _ x wr (ht1.below hB) (HGD.out x hxm) (HW.out.below hB))
    have HX := Hd hx1
    have HXM := Hd hxm
    clear hx1 ht1 ha1 hB hxm
    cases hf : f x
    · have HF := Hd hf
      rw [hf] at HC
      clear hf
      go_wp2_with (go_at_call 35; ((with_reducible refine HC.out.mono ?_); rintro e w3 ⟨rfl, hb⟩))
      have HQ := Hd (HB.out.trans (hb.mono hzr))
      go_ret
      exact ⟨ret_bool (kids_no HXM.out HF.out).symm, HQ.out⟩
    · have HF := Hd hf
      rw [hf] at HC
      clear hf
      go_wp2_with (go_at_call 35; ((with_reducible refine HC.out.mono ?_); rintro e w3 ⟨rfl, hb⟩))
      have HQ := Hd (HB.out.trans (hb.mono hzr))
      go_roundw
      case rel => exact ⟨k + 1, by omega, by go_num, take_all HX.out HP.out HF.out, HQ.out⟩
      case measure => simp [intOf]; omega
  · have hki : ¬ (k : Int) < (kids.length : Int) := by omega
    obtain rfl : k = kids.length := by omega
    rw [List.take_length] at HP
    go_wp2
    go_ret
    exact ⟨ret_bool (List.all_eq_true.2 HP.out).symm, HB.out⟩
def byF (f9 f13 : Tm → Bool) (K : Nat) (x : Tm) : Bool := if K = 28 then f9 x else f13 x
def zipB (f9 f13 : Tm → Bool) : List Nat → List Tm → Bool
 | [], [] => true
 | K :: fs, x :: kids => byF f9 f13 K x && zipB f9 f13 fs kids
 | _, _ => false
theorem zip_len {f9 f13 : Tm → Bool} : ∀ {fs : List Nat} {kids : List Tm}, fs.length ≠ kids.length → zipB f9 f13 fs kids = false := by
 intro fs
 induction fs with
 | nil => intro kids h; cases kids with
  | nil => exact absurd rfl h
  | cons x kids => rfl
 | cons K fs ih => intro kids h; cases kids with
  | nil => rfl
  | cons x kids =>
   have := ih (kids := kids) (fun e => h (by simp [e]))
   simp [zipB, this]
theorem zip_at {f9 f13 : Tm → Bool} : ∀ {fs : List Nat} {kids : List Tm} {k K : Nat} {x : Tm}, kids[k]? = some x → fs[k]? = some K → byF f9 f13 K x = false → zipB f9 f13 fs kids = false := by
 intro fs
 induction fs with
 | nil => intro kids k K x _ h2 _; simp at h2
 | cons L fs ih => intro kids k K x h1 h2 h3; cases kids with
  | nil => rfl
  | cons y kids =>
   cases k with
   | zero => simp at h1 h2; subst h1 h2; simp [zipB, h3]
   | succ k =>
    simp at h1 h2
    have := ih h1 h2 h3
    simp [zipB, this]
theorem zip_yes {f9 f13 : Tm → Bool} : ∀ {fs : List Nat} {kids : List Tm}, fs.length = kids.length → (∀ (j K : Nat) x, kids[j]? = some x → fs[j]? = some K → byF f9 f13 K x = true) → zipB f9 f13 fs kids = true := by
 intro fs
 induction fs with
 | nil => intro kids h _; cases kids with
  | nil => rfl
  | cons x kids => cases h
 | cons L fs ih => intro kids h h2; cases kids with
  | nil => cases h
  | cons y kids =>
   have h0 := h2 0 L y rfl rfl
   have := ih (kids := kids) (by simpa using h) (fun j K x hx hf => h2 (j + 1) K x (by simpa using hx) (by simpa using hf))
   simp [zipB, this, h0]
theorem zip_no9 {f9 f13 : Tm → Bool} {fs : List Nat} {kids : List Tm} {k : Nat} {x : Tm} (h1 : kids[k]? = some x) (h2 : fs[k]? = some 28) (h3 : f9 x = false) : zipB f9 f13 fs kids = false := zip_at h1 h2 (by simpa [byF] using h3)
theorem zip_no13 {f9 f13 : Tm → Bool} {fs : List Nat} {kids : List Tm} {k : Nat} {x : Tm} (h1 : kids[k]? = some x) (h2 : fs[k]? = some 34) (h3 : f13 x = false) : zipB f9 f13 fs kids = false := zip_at h1 h2 (by simpa [byF] using h3)
theorem zip_next {f9 f13 : Tm → Bool} {fs : List Nat} {kids : List Tm} {k L : Nat} {y : Tm} (h1 : kids[k]? = some y) (h2 : fs[k]? = some L) (hP : ∀ (j K : Nat) x, j < k → kids[j]? = some x → fs[j]? = some K → byF f9 f13 K x = true) (h3 : byF f9 f13 L y = true) :
 ∀ (j K : Nat) x, j < k + 1 → kids[j]? = some x → fs[j]? = some K → byF f9 f13 K x = true := by
 intro j K x hj hx hf
 by_cases e : j = k
 · subst e
   rw [h1] at hx
   rw [h2] at hf
   cases hx
   cases hf
   exact h3
 · exact hP j K x (by omega) hx hf
theorem isOf_any (f9 f13 : Tm → Bool) (fs : List Nat) (hfs : ∀ K ∈ fs, K = 28 ∨ K = 34) (hfl : fs.length ≤ 3) (d : Nat) (kids : List Tm) (h9 : 28 ∈ fs → Judge 28 f9 d) (h13 : 34 ∈ fs → Judge 34 f13 d) (hG : ∀ x ∈ kids, Gd d x) (s : Value) (g : Nat) (w : World) (hw : LxW w) (hk : KidsT w d s kids)
 (hg : ∀ j K, fs[j]? = some K → w.cell? ⟨g, j, none⟩ = some (.func (.func K) #[] #[])) (hgw : g < w.heap.size) :
 Calls Tryz.prog 77 #[s, .slice (some ⟨g, 0, none⟩) fs.length fs.length] w (Ans (zipB f9 f13 fs kids) w) := by
 obtain ⟨q, c, rfl, hm, hr⟩ := hk
 unfold maxLen at hm
 by_cases hl : kids.length = fs.length
 rotate_left
 · have hli : ((kids.length : Int) != (fs.length : Int)) = true := by simp; omega
   have HZ := Hd (zip_len (f9 := f9) (f13 := f13) (fun e => hl e.symm))
   clear h9 h13 hr hg
   go_enter Tryz.func77, Tryz.ntmps77
   go_wp2
   go_ret
   exact ⟨ret_bool HZ.out.symm, Below.refl _ _⟩
 have hli : ((kids.length : Int) != (fs.length : Int)) = false := by simp; omega
 have HLE := Hd hl
 clear hl
 have HR := Hd hr
 have HG := Hd hg
 unfold Judge at h9 h13
 have H9 := Hd h9
 have H13 := Hd h13
 have HW := Hd hw
 have HGD := Hd hG
 have HFS := Hd hfs
 clear hr h9 h13 hg hw hG hfs
 go_enter Tryz.func77, Tryz.ntmps77
 go_wp2
 go_loopw [14] (fun i wr => ∃ k : Nat, k ≤ kids.length ∧ i = .int .i64 k ∧ (∀ (j K : Nat) x, j < k → kids[j]? = some x → fs[j]? = some K → byF f9 f13 K x = true) ∧ Below w.heap.size w wr) (fun i _ => kids.length - (intOf i).toNat)
 case atStart => exact ⟨0, Nat.zero_le _, rfl, (fun j K x hj => absurd hj (by omega)), Below.refl _ _⟩
 case round =>
   obtain ⟨k, hk, rfl, hP, hB⟩ := hrel
   have hzr := hB.size
   have HB := Hd hB
   have HP := Hd hP
   clear hP
   by_cases hlt : k < kids.length
   · have hx1 := List.getElem?_eq_getElem hlt
     generalize kids[k] = x at *
     obtain ⟨b1, o1, k1', p1', n1', N1', s1', hq1, ha1, ht1⟩ := HR.out k x hx1
     subst hq1
     obtain ⟨q3, l3, c3, hs3⟩ := ht1.spell
     subst hs3
     obtain ⟨x0, x1, x2, x3, x4⟩ := ha1.below hB ha1.lt
     have hxm : x ∈ kids := List.mem_of_getElem? hx1
     have HX := Hd hx1
     have hki : (k : Int) < (kids.length : Int) := by omega
     have hkf : k < fs.length := by have := HLE.out; omega
     have hkfi : (k : Int) < (fs.length : Int) := by omega
     have hgr : g < wr.heap.size := by omega
     have k0 := hb_new wr (.cells #[.int .i64 k1', .string p1', .string n1', .int .i64 N1', .slice q3 l3 c3] 24)
     have K0 := Hd k0
     have hfk0 : ∃ K, fs[k]? = some K ∧ (K = 28 ∨ K = 34) := ⟨fs[k], List.getElem?_eq_getElem hkf, HFS.out _ (List.getElem_mem hkf)⟩
     obtain ⟨K, hfk, hK⟩ := hfk0
     rcases hK with rfl | rfl
     · have m0 : wr.cell? ⟨g, k, none⟩ = some (.func (.func 28) #[] #[]) := (hB.cell (p := ⟨g, k, none⟩) hgw).trans (HG.out k _ hfk)
       have HC : RowKit.Hid (∀ W, Below wr.heap.size wr W → Calls Tryz.prog 28 #[tv k1' p1' n1' N1' (.slice q3 l3 c3)] W (Ans (f9 x) W)) :=
        Hd fun W hW => H9.out (List.mem_of_getElem? hfk) _ x W ((ht1.below hB).below hW) (HGD.out x hxm) ((HW.out.below hB).below hW)
       have HFX : RowKit.Hid (fs[k]? = some 28) := Hd hfk
       clear hx1 ht1 ha1 hB hxm hfk k0
       cases hf : f9 x
       · have HF := Hd hf
         rw [hf] at HC
         clear hf
         go_wp2
         refine wp_region_held_drew (S := (fun w' => RowKit.Hid (Below wr.heap.size wr w') ∧ w'.cell? ⟨g, k, none⟩ = some (.func (.func 28) #[] #[]) ∧ w'.cell? ⟨wr.heap.size, 0, none⟩ = some (.int .i64 k1') ∧ w'.cell? ⟨wr.heap.size, 1, none⟩ = some (.string p1') ∧ w'.cell? ⟨wr.heap.size, 2, none⟩ = some (.string n1') ∧ w'.cell? ⟨wr.heap.size, 3, none⟩ = some (.int .i64 N1') ∧ w'.cell? ⟨wr.heap.size, 4, none⟩ = some (.slice q3 l3 c3))) Q70 Q3 (fun hHeld => ?_)
         refine tk 0 19 ?_
         refine tk 1 20 ?_
         refine tk 2 21 ?_
         refine tk 3 22 ?_
         refine tk 4 23 ?_
         refine wpAnyH_ready (rs := [5]) Q70 (by simp) ?_
         refine AllReadyH.cons (o := ⟨some 24, _, _, _, _, _⟩) rfl (fun K hK => ?_) AllReadyH.nil
         go_simp
         ((with_reducible refine (HC.out _ hHeld.1.out).mono ?_); rintro e w3 ⟨rfl, hb⟩)
         go_wp2_with fail
         refine hK.out _ _ Q13 (fun hNew => ?_)
         clear hK K
         clear hHeld hb; have hHeld := hNew; clear hNew
         try simp only [Act.put, List.setIfInBounds_toArray, List.set_cons_zero, List.set_cons_succ]
         refine tk 6 25 ?_
         refine wpAnyH_done Q70 ?_ _
         have HQ := Hd (HB.out.trans (hHeld.1.out.mono hzr))
         clear hHeld
         go_wp2
         go_ret
         exact ⟨ret_bool (zip_no9 HX.out HFX.out HF.out).symm, HQ.out⟩
       · have HF := Hd hf
         rw [hf] at HC
         clear hf
         go_wp2
         refine wp_region_held_drew (S := (fun w' => RowKit.Hid (Below wr.heap.size wr w') ∧ w'.cell? ⟨g, k, none⟩ = some (.func (.func 28) #[] #[]) ∧ w'.cell? ⟨wr.heap.size, 0, none⟩ = some (.int .i64 k1') ∧ w'.cell? ⟨wr.heap.size, 1, none⟩ = some (.string p1') ∧ w'.cell? ⟨wr.heap.size, 2, none⟩ = some (.string n1') ∧ w'.cell? ⟨wr.heap.size, 3, none⟩ = some (.int .i64 N1') ∧ w'.cell? ⟨wr.heap.size, 4, none⟩ = some (.slice q3 l3 c3))) Q70 Q3 (fun hHeld => ?_)
         refine tk 0 19 ?_
         refine tk 1 20 ?_
         refine tk 2 21 ?_
         refine tk 3 22 ?_
         refine tk 4 23 ?_
         refine wpAnyH_ready (rs := [5]) Q70 (by simp) ?_
         refine AllReadyH.cons (o := ⟨some 24, _, _, _, _, _⟩) rfl (fun K hK => ?_) AllReadyH.nil
         go_simp
         ((with_reducible refine (HC.out _ hHeld.1.out).mono ?_); rintro e w3 ⟨rfl, hb⟩)
         go_wp2_with fail
         refine hK.out _ _ Q13 (fun hNew => ?_)
         clear hK K
         clear hHeld hb; have hHeld := hNew; clear hNew
         try simp only [Act.put, List.setIfInBounds_toArray, List.set_cons_zero, List.set_cons_succ]
         refine tk 6 25 ?_
         refine wpAnyH_done Q70 ?_ _
         have HQ := Hd (HB.out.trans (hHeld.1.out.mono hzr))
         clear hHeld
         go_wp2
         go_roundw
         case rel => exact ⟨k + 1, by omega, by go_num, zip_next HX.out HFX.out HP.out (by simpa [byF] using HF.out), HQ.out⟩
         case measure => simp [intOf]; omega
     · have m0 : wr.cell? ⟨g, k, none⟩ = some (.func (.func 34) #[] #[]) := (hB.cell (p := ⟨g, k, none⟩) hgw).trans (HG.out k _ hfk)
       have HC : RowKit.Hid (∀ W, Below wr.heap.size wr W → Calls Tryz.prog 34 #[tv k1' p1' n1' N1' (.slice q3 l3 c3)] W (Ans (f13 x) W)) :=
        Hd fun W hW => H13.out (List.mem_of_getElem? hfk) _ x W ((ht1.below hB).below hW) (HGD.out x hxm) ((HW.out.below hB).below hW)
       have HFX : RowKit.Hid (fs[k]? = some 34) := Hd hfk
       clear hx1 ht1 ha1 hB hxm hfk k0
       cases hf : f13 x
       · have HF := Hd hf
         rw [hf] at HC
         clear hf
         go_wp2
         refine wp_region_held_drew (S := (fun w' => RowKit.Hid (Below wr.heap.size wr w') ∧ w'.cell? ⟨g, k, none⟩ = some (.func (.func 34) #[] #[]) ∧ w'.cell? ⟨wr.heap.size, 0, none⟩ = some (.int .i64 k1') ∧ w'.cell? ⟨wr.heap.size, 1, none⟩ = some (.string p1') ∧ w'.cell? ⟨wr.heap.size, 2, none⟩ = some (.string n1') ∧ w'.cell? ⟨wr.heap.size, 3, none⟩ = some (.int .i64 N1') ∧ w'.cell? ⟨wr.heap.size, 4, none⟩ = some (.slice q3 l3 c3))) Q70 Q3 (fun hHeld => ?_)
         refine tk 0 19 ?_
         refine tk 1 20 ?_
         refine tk 2 21 ?_
         refine tk 3 22 ?_
         refine tk 4 23 ?_
         refine wpAnyH_ready (rs := [5]) Q70 (by simp) ?_
         refine AllReadyH.cons (o := ⟨some 24, _, _, _, _, _⟩) rfl (fun K hK => ?_) AllReadyH.nil
         go_simp
         ((with_reducible refine (HC.out _ hHeld.1.out).mono ?_); rintro e w3 ⟨rfl, hb⟩)
         go_wp2_with fail
         refine hK.out _ _ Q13 (fun hNew => ?_)
         clear hK K
         clear hHeld hb; have hHeld := hNew; clear hNew
         try simp only [Act.put, List.setIfInBounds_toArray, List.set_cons_zero, List.set_cons_succ]
         refine tk 6 25 ?_
         refine wpAnyH_done Q70 ?_ _
         have HQ := Hd (HB.out.trans (hHeld.1.out.mono hzr))
         clear hHeld
         go_wp2
         go_ret
         exact ⟨ret_bool (zip_no13 HX.out HFX.out HF.out).symm, HQ.out⟩
       · have HF := Hd hf
         rw [hf] at HC
         clear hf
         go_wp2
         refine wp_region_held_drew (S := (fun w' => RowKit.Hid (Below wr.heap.size wr w') ∧ w'.cell? ⟨g, k, none⟩ = some (.func (.func 34) #[] #[]) ∧ w'.cell? ⟨wr.heap.size, 0, none⟩ = some (.int .i64 k1') ∧ w'.cell? ⟨wr.heap.size, 1, none⟩ = some (.string p1') ∧ w'.cell? ⟨wr.heap.size, 2, none⟩ = some (.string n1') ∧ w'.cell? ⟨wr.heap.size, 3, none⟩ = some (.int .i64 N1') ∧ w'.cell? ⟨wr.heap.size, 4, none⟩ = some (.slice q3 l3 c3))) Q70 Q3 (fun hHeld => ?_)
         refine tk 0 19 ?_
         refine tk 1 20 ?_
         refine tk 2 21 ?_
         refine tk 3 22 ?_
         refine tk 4 23 ?_
         refine wpAnyH_ready (rs := [5]) Q70 (by simp) ?_
         refine AllReadyH.cons (o := ⟨some 24, _, _, _, _, _⟩) rfl (fun K hK => ?_) AllReadyH.nil
         go_simp
         ((with_reducible refine (HC.out _ hHeld.1.out).mono ?_); rintro e w3 ⟨rfl, hb⟩)
         go_wp2_with fail
         refine hK.out _ _ Q13 (fun hNew => ?_)
         clear hK K
         clear hHeld hb; have hHeld := hNew; clear hNew
         try simp only [Act.put, List.setIfInBounds_toArray, List.set_cons_zero, List.set_cons_succ]
         refine tk 6 25 ?_
         refine wpAnyH_done Q70 ?_ _
         have HQ := Hd (HB.out.trans (hHeld.1.out.mono hzr))
         clear hHeld
         go_wp2
         go_roundw
         case rel => exact ⟨k + 1, by omega, by go_num, zip_next HX.out HFX.out HP.out (by simpa [byF] using HF.out), HQ.out⟩
         case measure => simp [intOf]; omega
   · obtain rfl : k = kids.length := by omega
     go_wp2
     go_ret
     exact ⟨ret_bool (zip_yes HLE.out.symm (fun j K x hx hf => HP.out j K x (by have := (List.getElem?_eq_some_iff.1 hx).1; omega) hx hf)).symm, HB.out⟩
def Yes (w : World) (e : Ending) (w' : World) : Prop := e = .returned (.bool true) ∧ Below w.heap.size w w'
theorem isOf_nil (q : Option Addr) (c : Nat) (w : World) : Calls Tryz.prog 77 #[.slice q 0 c, .slice none 0 0] w (Yes w) := by
 go_enter Tryz.func77, Tryz.ntmps77
 go_wp2
 go_loopw [14] (fun i wr => i = .int .i64 0 ∧ wr = w) (fun _ _ => 0)
 case atStart => exact ⟨rfl, rfl⟩
 case round =>
  obtain ⟨rfl, rfl⟩ := hrel
  go_wp2
  go_ret
  exact ⟨rfl, Below.refl _ _⟩
theorem isOfNil_any (q : Option Addr) (l c : Nat) (hm : l ≤ 9223372036854775807) (w : World) : Calls Tryz.prog 77 #[.slice q l c, .slice none 0 0] w (Ans (l == 0) w) := by
 by_cases h : l = 0
 · subst h
   exact (isOf_nil q c w).mono fun e w' he => he
 · have hl : ((l : Int) != 0) = true := by simp; omega
   have hb : (l == 0) = false := by simpa using h
   rw [hb]
   clear h hb
   go_enter Tryz.func77, Tryz.ntmps77
   go_wp2
   go_ret
   exact ⟨rfl, Below.refl _ _⟩
theorem one_fun (W : World) (K1 : Nat) (t : TypeId) : ∀ j K, [K1][j]? = some K → (W.alloc (.cells #[.func (.func K1) #[] #[]] t)).cell? ⟨W.heap.size, j, none⟩ = some (.func (.func K) #[] #[]) := by
 intro j K h
 match j, h with
 | 0, h => cases h; exact hb_at (hb_new W _) 0 rfl
theorem two_funs (W : World) (K1 K2 : Nat) (t : TypeId) : ∀ j K, [K1, K2][j]? = some K → (W.alloc (.cells #[.func (.func K1) #[] #[], .func (.func K2) #[] #[]] t)).cell? ⟨W.heap.size, j, none⟩ = some (.func (.func K) #[] #[]) := by
 intro j K h
 match j, h with
 | 0, h => cases h; exact hb_at (hb_new W _) 0 rfl
 | 1, h => cases h; exact hb_at (hb_new W _) 1 rfl
theorem three_funs (W : World) (K1 K2 K3 : Nat) (t : TypeId) : ∀ j K, [K1, K2, K3][j]? = some K → (W.alloc (.cells #[.func (.func K1) #[] #[], .func (.func K2) #[] #[], .func (.func K3) #[] #[]] t)).cell? ⟨W.heap.size, j, none⟩ = some (.func (.func K) #[] #[]) := by
 intro j K h
 match j, h with
 | 0, h => cases h; exact hb_at (hb_new W _) 0 rfl
 | 1, h => cases h; exact hb_at (hb_new W _) 1 rfl
 | 2, h => cases h; exact hb_at (hb_new W _) 2 rfl
def tupB (f : Tm → Bool) (p n : ByteArray) (N : Int) (kids : List Tm) : Bool := bareB p n N && ((kids.length != 1) && kids.all f)
theorem isTuple_any9 (f : Tm → Bool) (d : Nat) (k : Int) (p n : ByteArray) (N : Int) (q : Option Addr) (c : Nat) (kids : List Tm) (h : Judge 28 f d) (hG : ∀ x ∈ kids, Gd d x) (w : World) (hw : LxW w) (hk : KidsT w d (.slice q kids.length c) kids) :
 Calls Tryz.prog 81 #[tv k p n N (.slice q kids.length c), .func (.func 28) #[] #[]] w (Ans (tupB f p n N kids) w) := by
 unfold tupB
 have HB33 := Hd (fun W => bare_any k p n N q kids.length c W)
 have HA := Hd (fun W hW hk => areAll_any9 f d kids h hG (.slice q kids.length c) W hW hk)
 have hnew := hb_new w (.cells #[.int .i64 k, .string p, .string n, .int .i64 N, .slice q kids.length c] 24)
 have K0 := Hd hnew
 have LX0 := Hd (fun o => hw.under rfl (below_alloc w o))
 have HK0 := Hd (hk.below (below_alloc w (.cells #[.int .i64 k, .string p, .string n, .int .i64 N, .slice q kids.length c] 24)))
 have hL : ((kids.length : Int) != 1) = (kids.length != 1) := by
  rw [Bool.eq_iff_iff]; simp; omega
 generalize bareB p n N = b1 at *
 generalize kids.all f = b3 at *
 generalize (kids.length != 1) = b2 at *
 clear hw hk h hG hnew
 cases b1
 · go_enter Tryz.func81, Tryz.ntmps81
   go_wp2_with (go_at_call 80; ((with_reducible refine (HB33.out _).mono ?_); rintro e w1 ⟨rfl, hb⟩; have HBB1 := Hd ((below_alloc w _).trans (hb.mono (by simp))); have kk1 := hb_below K0.out hb (by simp); have LX1 := Hd ((LX0.out _).under rfl hb); have HK1 := Hd (HK0.out.below hb); have K1 := Hd kk1; obtain ⟨r1_0, r1_1, r1_2, r1_3, r1_4⟩ := hb5 kk1; clear hb kk1))
   go_ret
   exact ⟨rfl, HBB1.out⟩
 · skip
   cases b2
   · go_enter Tryz.func81, Tryz.ntmps81
     go_wp2_with (go_at_call 80; ((with_reducible refine (HB33.out _).mono ?_); rintro e w1 ⟨rfl, hb⟩; have HBB1 := Hd ((below_alloc w _).trans (hb.mono (by simp))); have kk1 := hb_below K0.out hb (by simp); have LX1 := Hd ((LX0.out _).under rfl hb); have HK1 := Hd (HK0.out.below hb); have K1 := Hd kk1; obtain ⟨r1_0, r1_1, r1_2, r1_3, r1_4⟩ := hb5 kk1; clear hb kk1))
     go_ret
     exact ⟨rfl, HBB1.out⟩
   · skip
     go_enter Tryz.func81, Tryz.ntmps81
     go_wp2_with (first
      | (go_at_call 80; ((with_reducible refine (HB33.out _).mono ?_); rintro e w1 ⟨rfl, hb⟩; have HBB1 := Hd ((below_alloc w _).trans (hb.mono (by simp))); have kk1 := hb_below K0.out hb (by simp); have LX1 := Hd ((LX0.out _).under rfl hb); have HK1 := Hd (HK0.out.below hb); have K1 := Hd kk1; obtain ⟨r1_0, r1_1, r1_2, r1_3, r1_4⟩ := hb5 kk1; clear hb kk1))
      | (go_at_call 79; ((with_reducible refine (HA.out _ LX1.out HK1.out).mono ?_); rintro e w2 ⟨rfl, hb⟩; have HBB2 := Hd (HBB1.out.trans (hb.mono HBB1.out.size)); have kk2 := hb_below K1.out hb (hb_lt K1.out); have LX2 := Hd (LX1.out.under rfl hb); have HK2 := Hd (HK1.out.below hb); have K2 := Hd kk2; obtain ⟨r2_0, r2_1, r2_2, r2_3, r2_4⟩ := hb5 kk2; clear hb kk2)))
     go_ret
     exact ⟨rfl, HBB2.out⟩
theorem isTuple_any11 (f : Tm → Bool) (d : Nat) (k : Int) (p n : ByteArray) (N : Int) (q : Option Addr) (c : Nat) (kids : List Tm) (h : Judge 31 f d) (hG : ∀ x ∈ kids, Gd d x) (w : World) (hw : LxW w) (hk : KidsT w d (.slice q kids.length c) kids) :
 Calls Tryz.prog 81 #[tv k p n N (.slice q kids.length c), .func (.func 31) #[] #[]] w (Ans (tupB f p n N kids) w) := by
 unfold tupB
 have HB33 := Hd (fun W => bare_any k p n N q kids.length c W)
 have HA := Hd (fun W hW hk => areAll_any11 f d kids h hG (.slice q kids.length c) W hW hk)
 have hnew := hb_new w (.cells #[.int .i64 k, .string p, .string n, .int .i64 N, .slice q kids.length c] 24)
 have K0 := Hd hnew
 have LX0 := Hd (fun o => hw.under rfl (below_alloc w o))
 have HK0 := Hd (hk.below (below_alloc w (.cells #[.int .i64 k, .string p, .string n, .int .i64 N, .slice q kids.length c] 24)))
 have hL : ((kids.length : Int) != 1) = (kids.length != 1) := by
  rw [Bool.eq_iff_iff]; simp; omega
 generalize bareB p n N = b1 at *
 generalize kids.all f = b3 at *
 generalize (kids.length != 1) = b2 at *
 clear hw hk h hG hnew
 cases b1
 · go_enter Tryz.func81, Tryz.ntmps81
   go_wp2_with (go_at_call 80; ((with_reducible refine (HB33.out _).mono ?_); rintro e w1 ⟨rfl, hb⟩; have HBB1 := Hd ((below_alloc w _).trans (hb.mono (by simp))); have kk1 := hb_below K0.out hb (by simp); have LX1 := Hd ((LX0.out _).under rfl hb); have HK1 := Hd (HK0.out.below hb); have K1 := Hd kk1; obtain ⟨r1_0, r1_1, r1_2, r1_3, r1_4⟩ := hb5 kk1; clear hb kk1))
   go_ret
   exact ⟨rfl, HBB1.out⟩
 · skip
   cases b2
   · go_enter Tryz.func81, Tryz.ntmps81
     go_wp2_with (go_at_call 80; ((with_reducible refine (HB33.out _).mono ?_); rintro e w1 ⟨rfl, hb⟩; have HBB1 := Hd ((below_alloc w _).trans (hb.mono (by simp))); have kk1 := hb_below K0.out hb (by simp); have LX1 := Hd ((LX0.out _).under rfl hb); have HK1 := Hd (HK0.out.below hb); have K1 := Hd kk1; obtain ⟨r1_0, r1_1, r1_2, r1_3, r1_4⟩ := hb5 kk1; clear hb kk1))
     go_ret
     exact ⟨rfl, HBB1.out⟩
   · skip
     go_enter Tryz.func81, Tryz.ntmps81
     go_wp2_with (first
      | (go_at_call 80; ((with_reducible refine (HB33.out _).mono ?_); rintro e w1 ⟨rfl, hb⟩; have HBB1 := Hd ((below_alloc w _).trans (hb.mono (by simp))); have kk1 := hb_below K0.out hb (by simp); have LX1 := Hd ((LX0.out _).under rfl hb); have HK1 := Hd (HK0.out.below hb); have K1 := Hd kk1; obtain ⟨r1_0, r1_1, r1_2, r1_3, r1_4⟩ := hb5 kk1; clear hb kk1))
      | (go_at_call 79; ((with_reducible refine (HA.out _ LX1.out HK1.out).mono ?_); rintro e w2 ⟨rfl, hb⟩; have HBB2 := Hd (HBB1.out.trans (hb.mono HBB1.out.size)); have kk2 := hb_below K1.out hb (hb_lt K1.out); have LX2 := Hd (LX1.out.under rfl hb); have HK2 := Hd (HK1.out.below hb); have K2 := Hd kk2; obtain ⟨r2_0, r2_1, r2_2, r2_3, r2_4⟩ := hb5 kk2; clear hb kk2)))
     go_ret
     exact ⟨rfl, HBB2.out⟩
theorem isTuple_any13 (f : Tm → Bool) (d : Nat) (k : Int) (p n : ByteArray) (N : Int) (q : Option Addr) (c : Nat) (kids : List Tm) (h : Judge 34 f d) (hG : ∀ x ∈ kids, Gd d x) (w : World) (hw : LxW w) (hk : KidsT w d (.slice q kids.length c) kids) :
 Calls Tryz.prog 81 #[tv k p n N (.slice q kids.length c), .func (.func 34) #[] #[]] w (Ans (tupB f p n N kids) w) := by
 unfold tupB
 have HB33 := Hd (fun W => bare_any k p n N q kids.length c W)
 have HA := Hd (fun W hW hk => areAll_any13 f d kids h hG (.slice q kids.length c) W hW hk)
 have hnew := hb_new w (.cells #[.int .i64 k, .string p, .string n, .int .i64 N, .slice q kids.length c] 24)
 have K0 := Hd hnew
 have LX0 := Hd (fun o => hw.under rfl (below_alloc w o))
 have HK0 := Hd (hk.below (below_alloc w (.cells #[.int .i64 k, .string p, .string n, .int .i64 N, .slice q kids.length c] 24)))
 have hL : ((kids.length : Int) != 1) = (kids.length != 1) := by
  rw [Bool.eq_iff_iff]; simp; omega
 generalize bareB p n N = b1 at *
 generalize kids.all f = b3 at *
 generalize (kids.length != 1) = b2 at *
 clear hw hk h hG hnew
 cases b1
 · go_enter Tryz.func81, Tryz.ntmps81
   go_wp2_with (go_at_call 80; ((with_reducible refine (HB33.out _).mono ?_); rintro e w1 ⟨rfl, hb⟩; have HBB1 := Hd ((below_alloc w _).trans (hb.mono (by simp))); have kk1 := hb_below K0.out hb (by simp); have LX1 := Hd ((LX0.out _).under rfl hb); have HK1 := Hd (HK0.out.below hb); have K1 := Hd kk1; obtain ⟨r1_0, r1_1, r1_2, r1_3, r1_4⟩ := hb5 kk1; clear hb kk1))
   go_ret
   exact ⟨rfl, HBB1.out⟩
 · skip
   cases b2
   · go_enter Tryz.func81, Tryz.ntmps81
     go_wp2_with (go_at_call 80; ((with_reducible refine (HB33.out _).mono ?_); rintro e w1 ⟨rfl, hb⟩; have HBB1 := Hd ((below_alloc w _).trans (hb.mono (by simp))); have kk1 := hb_below K0.out hb (by simp); have LX1 := Hd ((LX0.out _).under rfl hb); have HK1 := Hd (HK0.out.below hb); have K1 := Hd kk1; obtain ⟨r1_0, r1_1, r1_2, r1_3, r1_4⟩ := hb5 kk1; clear hb kk1))
     go_ret
     exact ⟨rfl, HBB1.out⟩
   · skip
     go_enter Tryz.func81, Tryz.ntmps81
     go_wp2_with (first
      | (go_at_call 80; ((with_reducible refine (HB33.out _).mono ?_); rintro e w1 ⟨rfl, hb⟩; have HBB1 := Hd ((below_alloc w _).trans (hb.mono (by simp))); have kk1 := hb_below K0.out hb (by simp); have LX1 := Hd ((LX0.out _).under rfl hb); have HK1 := Hd (HK0.out.below hb); have K1 := Hd kk1; obtain ⟨r1_0, r1_1, r1_2, r1_3, r1_4⟩ := hb5 kk1; clear hb kk1))
      | (go_at_call 79; ((with_reducible refine (HA.out _ LX1.out HK1.out).mono ?_); rintro e w2 ⟨rfl, hb⟩; have HBB2 := Hd (HBB1.out.trans (hb.mono HBB1.out.size)); have kk2 := hb_below K1.out hb (hb_lt K1.out); have LX2 := Hd (LX1.out.under rfl hb); have HK2 := Hd (HK1.out.below hb); have K2 := Hd kk2; obtain ⟨r2_0, r2_1, r2_2, r2_3, r2_4⟩ := hb5 kk2; clear hb kk2)))
     go_ret
     exact ⟨rfl, HBB2.out⟩
noncomputable def typeB : Nat → Tm → Bool
 | 0, _ => false
 | d + 1, .mk k p n N kids =>
  if k = 1 then namedB 3 p n N && (kids.length == 0)
  else if k = 2 then qualB 1 p n N && kids.all (typeB d)
  else if k = 3 then bareB p n N && zipB (typeB d) (typeB d) [28, 28] kids
  else if k = 4 then tupB (typeB d) p n N kids
  else false
theorem zip_two {f : Tm → Bool} {kids : List Tm} : zipB f f [28, 28] kids = ((kids.length == 2) && kids.all f) := by
 match kids with
 | [] => rfl
 | [x] => simp [zipB]
 | [x, y] => simp [zipB, byF]
 | x :: y :: z :: r => simp [zipB]
theorem only_n (p n : ByteArray) (N : Int) : onlyB ⟨#[110]⟩ p n N = ((p.toList == []) && (N == 0)) := by
 have h1 : hasB ⟨#[110]⟩ 112 (⟨#[110]⟩ : ByteArray).size = false := by decide
 have h2 : hasB ⟨#[110]⟩ 110 (⟨#[110]⟩ : ByteArray).size = true := by decide
 have h3 : hasB ⟨#[110]⟩ 107 (⟨#[110]⟩ : ByteArray).size = false := by decide
 unfold onlyB
 rw [h1, h2, h3]
 simp
theorem only_pn (p n : ByteArray) (N : Int) : onlyB ⟨#[112, 110]⟩ p n N = (N == 0) := by
 have h1 : hasB ⟨#[112, 110]⟩ 112 (⟨#[112, 110]⟩ : ByteArray).size = true := by decide
 have h2 : hasB ⟨#[112, 110]⟩ 110 (⟨#[112, 110]⟩ : ByteArray).size = true := by decide
 have h3 : hasB ⟨#[112, 110]⟩ 107 (⟨#[112, 110]⟩ : ByteArray).size = false := by decide
 unfold onlyB
 rw [h1, h2, h3]
 simp
theorem only_no (p n : ByteArray) (N : Int) : onlyB ⟨#[]⟩ p n N = bareB p n N := by
 have h : ∀ c, hasB ⟨#[]⟩ c (⟨#[]⟩ : ByteArray).size = false := fun c => rfl
 unfold onlyB bareB
 rw [h, h, h]
 simp
theorem only_k (p n : ByteArray) (N : Int) : onlyB ⟨#[107]⟩ p n N = ((p.toList == []) && (n.toList == [])) := by
 have h1 : hasB ⟨#[107]⟩ 112 (⟨#[107]⟩ : ByteArray).size = false := by decide
 have h2 : hasB ⟨#[107]⟩ 110 (⟨#[107]⟩ : ByteArray).size = false := by decide
 have h3 : hasB ⟨#[107]⟩ 107 (⟨#[107]⟩ : ByteArray).size = true := by decide
 unfold onlyB
 rw [h1, h2, h3]
 simp
theorem named_n (K : Int) (p n : ByteArray) (N : Int) : namedB K p n N = (onlyB ⟨#[110]⟩ p n N && rB K n 0) := by
 rw [only_n]
 unfold namedB qualB
 cases (p.toList == []) <;> cases (N == 0) <;> cases rB K n 0 <;> rfl
theorem qual_pn (K : Int) (p n : ByteArray) (N : Int) : qualB K p n N = (onlyB ⟨#[112, 110]⟩ p n N && (rB K n 0 && pkgB p)) := by
 rw [only_pn]
 rfl
theorem num_k (p n : ByteArray) (N : Int) : numB p n N = (onlyB ⟨#[107]⟩ p n N && rB 4 ⟨#[]⟩ N) := by
 rw [only_k]
 unfold numB
 cases (p.toList == []) <;> cases (n.toList == []) <;> rfl
theorem type_next (d : Nat) (hd : Judge 28 (typeB d) d) : Judge 28 (typeB (d + 1)) (d + 1) := by
 intro v x w hT hG hw
 obtain ⟨d1, k, p, n, N, s, kids, e1, rfl, rfl, _, _, hk⟩ := hT.open
 obtain rfl : d = d1 := by omega
 obtain ⟨q, c, rfl, hm, hr⟩ := hk
 have hk : KidsT w d (.slice q kids.length c) kids := ⟨q, c, rfl, hm, hr⟩
 obtain ⟨hp, hn, hN', hg⟩ := hG
 have hG : True := trivial
 unfold maxLen at hm
 clear hT e1 hr
 by_cases hk1 : k = 1
 · subst hk1
   rw [show typeB (d + 1) (.mk 1 p n N kids) = (namedB 3 p n N && ((kids.length == 0))) from by simp [typeB]]
   have Hb1 := Hd (fun W hW => named_any 3 1 p n N (by omega) (by omega) q kids.length c W hW)
   have Hb2 := Hd (fun W => isOfNil_any q kids.length c (by omega) W)
   have hnew := hb_new w (.cells #[.int .i64 1, .string p, .string n, .int .i64 N, .slice q kids.length c] 24)
   have K0 := Hd hnew
   have LX0 := Hd (fun o => hw.under rfl (below_alloc w o))
   have HK0 := Hd (hk.below (below_alloc w (.cells #[.int .i64 1, .string p, .string n, .int .i64 N, .slice q kids.length c] 24)))
   generalize namedB 3 p n N = b1 at *
   generalize (kids.length == 0) = b2 at *
   clear hw hk hG hg hp hn hN' hd hnew
   cases b1
   · go_enter Tryz.func28, Tryz.ntmps28
     go_wp2_with (go_at_call 76; ((with_reducible refine (Hb1.out _ (LX0.out _)).mono ?_); rintro e w1 ⟨rfl, hb⟩; have HBB1 := Hd ((below_alloc w _).trans (hb.mono (by simp))); have kk1 := hb_below K0.out hb (by simp); have LX1 := Hd ((LX0.out _).under rfl hb); have HK1 := Hd (HK0.out.below hb); have K1 := Hd kk1; obtain ⟨r1_0, r1_1, r1_2, r1_3, r1_4⟩ := hb5 kk1; clear hb kk1))
     go_ret
     exact ⟨rfl, HBB1.out⟩
   · skip
     go_enter Tryz.func28, Tryz.ntmps28
     go_wp2_with (first
      | (go_at_call 76; ((with_reducible refine (Hb1.out _ (LX0.out _)).mono ?_); rintro e w1 ⟨rfl, hb⟩; have HBB1 := Hd ((below_alloc w _).trans (hb.mono (by simp))); have kk1 := hb_below K0.out hb (by simp); have LX1 := Hd ((LX0.out _).under rfl hb); have HK1 := Hd (HK0.out.below hb); have K1 := Hd kk1; obtain ⟨r1_0, r1_1, r1_2, r1_3, r1_4⟩ := hb5 kk1; clear hb kk1))
      | (go_at_call 77; ((with_reducible refine (Hb2.out _).mono ?_); rintro e w2 ⟨rfl, hb⟩; have HBB2 := Hd (HBB1.out.trans (hb.mono HBB1.out.size)); have kk2 := hb_below K1.out hb (hb_lt K1.out); have LX2 := Hd (LX1.out.under rfl hb); have HK2 := Hd (HK1.out.below hb); have K2 := Hd kk2; obtain ⟨r2_0, r2_1, r2_2, r2_3, r2_4⟩ := hb5 kk2; clear hb kk2)))
     go_ret
     exact ⟨rfl, HBB2.out⟩
 have d1 : (k == 1) = false := by simpa using hk1
 by_cases hk2 : k = 2
 · subst hk2
   rw [show typeB (d + 1) (.mk 2 p n N kids) = (qualB 1 p n N && (kids.all (typeB d))) from by simp [typeB]]
   have Hb1 := Hd (fun W hW => qualified_any 1 2 p n N (by omega) (by omega) q kids.length c W hW)
   have Hb2 := Hd (fun W hW hk => areAll_any9 (typeB d) d kids hd hg (.slice q kids.length c) W hW hk)
   have hnew := hb_new w (.cells #[.int .i64 2, .string p, .string n, .int .i64 N, .slice q kids.length c] 24)
   have K0 := Hd hnew
   have LX0 := Hd (fun o => hw.under rfl (below_alloc w o))
   have HK0 := Hd (hk.below (below_alloc w (.cells #[.int .i64 2, .string p, .string n, .int .i64 N, .slice q kids.length c] 24)))
   generalize qualB 1 p n N = b1 at *
   generalize kids.all (typeB d) = b2 at *
   clear hw hk hG hg hp hn hN' hd hnew
   cases b1
   · go_enter Tryz.func28, Tryz.ntmps28
     go_wp2_with (go_at_call 78; ((with_reducible refine (Hb1.out _ (LX0.out _)).mono ?_); rintro e w1 ⟨rfl, hb⟩; have HBB1 := Hd ((below_alloc w _).trans (hb.mono (by simp))); have kk1 := hb_below K0.out hb (by simp); have LX1 := Hd ((LX0.out _).under rfl hb); have HK1 := Hd (HK0.out.below hb); have K1 := Hd kk1; obtain ⟨r1_0, r1_1, r1_2, r1_3, r1_4⟩ := hb5 kk1; clear hb kk1))
     go_ret
     exact ⟨rfl, HBB1.out⟩
   · skip
     go_enter Tryz.func28, Tryz.ntmps28
     go_wp2_with (first
      | (go_at_call 78; ((with_reducible refine (Hb1.out _ (LX0.out _)).mono ?_); rintro e w1 ⟨rfl, hb⟩; have HBB1 := Hd ((below_alloc w _).trans (hb.mono (by simp))); have kk1 := hb_below K0.out hb (by simp); have LX1 := Hd ((LX0.out _).under rfl hb); have HK1 := Hd (HK0.out.below hb); have K1 := Hd kk1; obtain ⟨r1_0, r1_1, r1_2, r1_3, r1_4⟩ := hb5 kk1; clear hb kk1))
      | (go_at_call 79; ((with_reducible refine (Hb2.out _ LX1.out HK1.out).mono ?_); rintro e w2 ⟨rfl, hb⟩; have HBB2 := Hd (HBB1.out.trans (hb.mono HBB1.out.size)); have kk2 := hb_below K1.out hb (hb_lt K1.out); have LX2 := Hd (LX1.out.under rfl hb); have HK2 := Hd (HK1.out.below hb); have K2 := Hd kk2; obtain ⟨r2_0, r2_1, r2_2, r2_3, r2_4⟩ := hb5 kk2; clear hb kk2)))
     go_ret
     exact ⟨rfl, HBB2.out⟩
 have d2 : (k == 2) = false := by simpa using hk2
 by_cases hk3 : k = 3
 · subst hk3
   rw [show typeB (d + 1) (.mk 3 p n N kids) = (bareB p n N && (zipB (typeB d) (typeB d) [28, 28] kids)) from by simp [typeB]]
   have Hb1 := Hd (fun W => bare_any 3 p n N q kids.length c W)
   have Hb2 : RowKit.Hid (∀ g W, LxW W → KidsT W d (.slice q kids.length c) kids → (∀ j K, [28, 28][j]? = some K → W.cell? ⟨g, j, none⟩ = some (.func (.func K) #[] #[])) → g < W.heap.size → Calls Tryz.prog 77 #[.slice q kids.length c, .slice (some ⟨g, 0, none⟩) 2 2] W (Ans (zipB (typeB d) (typeB d) [28, 28] kids) W)) := Hd (fun g W hW hk hgc hgl => isOf_any (typeB d) (typeB d) [28, 28] (by simp) (by decide) d kids (fun _ => hd) (fun h => by simp at h) hg (.slice q kids.length c) g W hW hk hgc hgl)
   have hnew := hb_new w (.cells #[.int .i64 3, .string p, .string n, .int .i64 N, .slice q kids.length c] 24)
   have K0 := Hd hnew
   have LX0 := Hd (fun o => hw.under rfl (below_alloc w o))
   have HK0 := Hd (hk.below (below_alloc w (.cells #[.int .i64 3, .string p, .string n, .int .i64 N, .slice q kids.length c] 24)))
   generalize bareB p n N = b1 at *
   generalize zipB (typeB d) (typeB d) [28, 28] kids = b2 at *
   clear hw hk hG hg hp hn hN' hd hnew
   cases b1
   · go_enter Tryz.func28, Tryz.ntmps28
     go_wp2_with (go_at_call 80; ((with_reducible refine (Hb1.out _).mono ?_); rintro e w1 ⟨rfl, hb⟩; have HBB1 := Hd ((below_alloc w _).trans (hb.mono (by simp))); have kk1 := hb_below K0.out hb (by simp); have LX1 := Hd ((LX0.out _).under rfl hb); have HK1 := Hd (HK0.out.below hb); have K1 := Hd kk1; obtain ⟨r1_0, r1_1, r1_2, r1_3, r1_4⟩ := hb5 kk1; clear hb kk1))
     go_ret
     exact ⟨rfl, HBB1.out⟩
   · skip
     go_enter Tryz.func28, Tryz.ntmps28
     go_wp2_with (first
      | (go_at_call 80; ((with_reducible refine (Hb1.out _).mono ?_); rintro e w1 ⟨rfl, hb⟩; have HBB1 := Hd ((below_alloc w _).trans (hb.mono (by simp))); have kk1 := hb_below K0.out hb (by simp); have LX1 := Hd ((LX0.out _).under rfl hb); have HK1 := Hd (HK0.out.below hb); have K1 := Hd kk1; obtain ⟨r1_0, r1_1, r1_2, r1_3, r1_4⟩ := hb5 kk1; clear hb kk1))
      | (go_at_call 77; ((with_reducible refine (Hb2.out _ _ (LX1.out.under rfl (below_alloc _ _)) (HK1.out.below (below_alloc _ _)) (two_funs _ 28 28 _) (by simp)).mono ?_); rintro e w2 ⟨rfl, hb⟩; have HBB2 := Hd ((HBB1.out.alloc HBB1.out.size _).trans (hb.mono Q56)); clear hb)))
     go_ret
     exact ⟨rfl, HBB2.out⟩
 have d3 : (k == 3) = false := by simpa using hk3
 by_cases hk4 : k = 4
 · subst hk4
   rw [show typeB (d + 1) (.mk 4 p n N kids) = (tupB (typeB d) p n N kids) from by simp [typeB]]
   have Hb1 := Hd (fun W hW hk => isTuple_any9 (typeB d) d 4 p n N q c kids hd hg W hW hk)
   have hnew := hb_new w (.cells #[.int .i64 4, .string p, .string n, .int .i64 N, .slice q kids.length c] 24)
   have K0 := Hd hnew
   have LX0 := Hd (fun o => hw.under rfl (below_alloc w o))
   have HK0 := Hd (hk.below (below_alloc w (.cells #[.int .i64 4, .string p, .string n, .int .i64 N, .slice q kids.length c] 24)))
   generalize tupB (typeB d) p n N kids = b1 at *
   clear hw hk hG hg hp hn hN' hd hnew
   go_enter Tryz.func28, Tryz.ntmps28
   go_wp2_with (go_at_call 81; ((with_reducible refine (Hb1.out _ (LX0.out _) HK0.out).mono ?_); rintro e w1 ⟨rfl, hb⟩; have HBB1 := Hd ((below_alloc w _).trans (hb.mono (by simp))); have kk1 := hb_below K0.out hb (by simp); have LX1 := Hd ((LX0.out _).under rfl hb); have HK1 := Hd (HK0.out.below hb); have K1 := Hd kk1; obtain ⟨r1_0, r1_1, r1_2, r1_3, r1_4⟩ := hb5 kk1; clear hb kk1))
   go_ret
   exact ⟨rfl, HBB1.out⟩
 have d4 : (k == 4) = false := by simpa using hk4
 rw [show typeB (d + 1) (.mk k p n N kids) = false from by simp only [typeB, if_neg hk1, if_neg hk2, if_neg hk3, if_neg hk4]]
 clear hw hk hG hg hp hn hN' hd
 go_enter Tryz.func28, Tryz.ntmps28
 go_wp2
 go_ret
 exact ⟨rfl, below_alloc w _⟩
theorem typeD_next (d : Nat) (hd : Judge 29 (typeB d) d) : Judge 29 (typeB (d + 1)) (d + 1) := by
 intro v x w hT hG hw
 obtain ⟨d1, k, p, n, N, s, kids, e1, rfl, rfl, _, _, hk⟩ := hT.open
 obtain rfl : d = d1 := by omega
 obtain ⟨q, c, rfl, hm, hr⟩ := hk
 have hk : KidsT w d (.slice q kids.length c) kids := ⟨q, c, rfl, hm, hr⟩
 obtain ⟨hp, hn, hN', hg⟩ := hG
 have hG : True := trivial
 unfold maxLen at hm
 clear hT e1 hr
 by_cases hk1 : k = 1
 · subst hk1
   rw [show typeB (d + 1) (.mk 1 p n N kids) = (onlyB ⟨#[110]⟩ p n N && (rB 3 n 0 && ((kids.length == 0)))) from by rw [typeB, if_pos rfl, named_n]; simp only [Bool.and_assoc]]
   have Hb1 := Hd (fun W => only_any 1 p n N q kids.length c ⟨#[110]⟩ (by decide) W)
   have Hb2 := Hd (fun W => isVar_any n (by omega) W)
   have hnew := hb_new w (.cells #[.int .i64 1, .string p, .string n, .int .i64 N, .slice q kids.length c] 24)
   have K0 := Hd hnew
   have LX0 := Hd (fun o => hw.under rfl (below_alloc w o))
   have HK0 := Hd (hk.below (below_alloc w (.cells #[.int .i64 1, .string p, .string n, .int .i64 N, .slice q kids.length c] 24)))
   have hL0 : ((kids.length : Int) == 0) = (kids.length == 0) := by rw [Bool.eq_iff_iff]; simp
   generalize onlyB ⟨#[110]⟩ p n N = b1 at *
   generalize rB 3 n 0 = b2 at *
   generalize (kids.length == 0) = b3 at *
   clear hw hk hG hg hp hn hN' hd hnew
   cases b1
   · go_enter Tryz.func29, Tryz.ntmps29
     go_wp2_with (go_at_call 82; ((with_reducible refine (Hb1.out _).mono ?_); rintro e w1 ⟨rfl, hb⟩; have HBB1 := Hd ((below_alloc w _).trans (hb.mono (by simp))); have kk1 := hb_below K0.out hb (by simp); have LX1 := Hd ((LX0.out _).under rfl hb); have HK1 := Hd (HK0.out.below hb); have K1 := Hd kk1; obtain ⟨r1_0, r1_1, r1_2, r1_3, r1_4⟩ := hb5 kk1; clear hb kk1))
     go_ret
     exact ⟨rfl, HBB1.out⟩
   · skip
     cases b2
     · go_enter Tryz.func29, Tryz.ntmps29
       go_wp2_with (first
        | (go_at_call 82; ((with_reducible refine (Hb1.out _).mono ?_); rintro e w1 ⟨rfl, hb⟩; have HBB1 := Hd ((below_alloc w _).trans (hb.mono (by simp))); have kk1 := hb_below K0.out hb (by simp); have LX1 := Hd ((LX0.out _).under rfl hb); have HK1 := Hd (HK0.out.below hb); have K1 := Hd kk1; obtain ⟨r1_0, r1_1, r1_2, r1_3, r1_4⟩ := hb5 kk1; clear hb kk1))
        | (go_at_call 83; ((with_reducible refine (Hb2.out _).mono ?_); rintro e w2 ⟨rfl, hb⟩; have HBB2 := Hd (HBB1.out.trans (hb.mono HBB1.out.size)); have kk2 := hb_below K1.out hb (hb_lt K1.out); have LX2 := Hd (LX1.out.under rfl hb); have HK2 := Hd (HK1.out.below hb); have K2 := Hd kk2; obtain ⟨r2_0, r2_1, r2_2, r2_3, r2_4⟩ := hb5 kk2; clear hb kk2)))
       go_ret
       exact ⟨rfl, HBB2.out⟩
     · skip
       go_enter Tryz.func29, Tryz.ntmps29
       go_wp2_with (first
        | (go_at_call 82; ((with_reducible refine (Hb1.out _).mono ?_); rintro e w1 ⟨rfl, hb⟩; have HBB1 := Hd ((below_alloc w _).trans (hb.mono (by simp))); have kk1 := hb_below K0.out hb (by simp); have LX1 := Hd ((LX0.out _).under rfl hb); have HK1 := Hd (HK0.out.below hb); have K1 := Hd kk1; obtain ⟨r1_0, r1_1, r1_2, r1_3, r1_4⟩ := hb5 kk1; clear hb kk1))
        | (go_at_call 83; ((with_reducible refine (Hb2.out _).mono ?_); rintro e w2 ⟨rfl, hb⟩; have HBB2 := Hd (HBB1.out.trans (hb.mono HBB1.out.size)); have kk2 := hb_below K1.out hb (hb_lt K1.out); have LX2 := Hd (LX1.out.under rfl hb); have HK2 := Hd (HK1.out.below hb); have K2 := Hd kk2; obtain ⟨r2_0, r2_1, r2_2, r2_3, r2_4⟩ := hb5 kk2; clear hb kk2)))
       go_ret
       exact ⟨rfl, HBB2.out⟩
 have d1 : (k == 1) = false := by simpa using hk1
 by_cases hk2 : k = 2
 · subst hk2
   rw [show typeB (d + 1) (.mk 2 p n N kids) = (onlyB ⟨#[112, 110]⟩ p n N && (rB 1 n 0 && (pkgB p && (kids.all (typeB d))))) from by rw [typeB, if_neg (by decide), if_pos rfl, qual_pn]; simp only [Bool.and_assoc]]
   have Hb1 := Hd (fun W => only_any 2 p n N q kids.length c ⟨#[112, 110]⟩ (by decide) W)
   have Hb2 := Hd (fun W => isLower_any n (by omega) W)
   have Hb3 := Hd (fun W => pkg_any p (by omega) W)
   have Hb4 := Hd (fun W hW hk => types_any (typeB d) d kids hd hg (.slice q kids.length c) W hW hk)
   have hnew := hb_new w (.cells #[.int .i64 2, .string p, .string n, .int .i64 N, .slice q kids.length c] 24)
   have K0 := Hd hnew
   have LX0 := Hd (fun o => hw.under rfl (below_alloc w o))
   have HK0 := Hd (hk.below (below_alloc w (.cells #[.int .i64 2, .string p, .string n, .int .i64 N, .slice q kids.length c] 24)))
   generalize onlyB ⟨#[112, 110]⟩ p n N = b1 at *
   generalize rB 1 n 0 = b2 at *
   generalize pkgB p = b3 at *
   generalize kids.all (typeB d) = b4 at *
   clear hw hk hG hg hp hn hN' hd hnew
   cases b1
   · go_enter Tryz.func29, Tryz.ntmps29
     go_wp2_with (go_at_call 82; ((with_reducible refine (Hb1.out _).mono ?_); rintro e w1 ⟨rfl, hb⟩; have HBB1 := Hd ((below_alloc w _).trans (hb.mono (by simp))); have kk1 := hb_below K0.out hb (by simp); have LX1 := Hd ((LX0.out _).under rfl hb); have HK1 := Hd (HK0.out.below hb); have K1 := Hd kk1; obtain ⟨r1_0, r1_1, r1_2, r1_3, r1_4⟩ := hb5 kk1; clear hb kk1))
     go_ret
     exact ⟨rfl, HBB1.out⟩
   · skip
     cases b2
     · go_enter Tryz.func29, Tryz.ntmps29
       go_wp2_with (first
        | (go_at_call 82; ((with_reducible refine (Hb1.out _).mono ?_); rintro e w1 ⟨rfl, hb⟩; have HBB1 := Hd ((below_alloc w _).trans (hb.mono (by simp))); have kk1 := hb_below K0.out hb (by simp); have LX1 := Hd ((LX0.out _).under rfl hb); have HK1 := Hd (HK0.out.below hb); have K1 := Hd kk1; obtain ⟨r1_0, r1_1, r1_2, r1_3, r1_4⟩ := hb5 kk1; clear hb kk1))
        | (go_at_call 63; ((with_reducible refine (Hb2.out _).mono ?_); rintro e w2 ⟨rfl, hb⟩; have HBB2 := Hd (HBB1.out.trans (hb.mono HBB1.out.size)); have kk2 := hb_below K1.out hb (hb_lt K1.out); have LX2 := Hd (LX1.out.under rfl hb); have HK2 := Hd (HK1.out.below hb); have K2 := Hd kk2; obtain ⟨r2_0, r2_1, r2_2, r2_3, r2_4⟩ := hb5 kk2; clear hb kk2)))
       go_ret
       exact ⟨rfl, HBB2.out⟩
     · skip
       cases b3
       · go_enter Tryz.func29, Tryz.ntmps29
         go_wp2_with (first
          | (go_at_call 82; ((with_reducible refine (Hb1.out _).mono ?_); rintro e w1 ⟨rfl, hb⟩; have HBB1 := Hd ((below_alloc w _).trans (hb.mono (by simp))); have kk1 := hb_below K0.out hb (by simp); have LX1 := Hd ((LX0.out _).under rfl hb); have HK1 := Hd (HK0.out.below hb); have K1 := Hd kk1; obtain ⟨r1_0, r1_1, r1_2, r1_3, r1_4⟩ := hb5 kk1; clear hb kk1))
          | (go_at_call 63; ((with_reducible refine (Hb2.out _).mono ?_); rintro e w2 ⟨rfl, hb⟩; have HBB2 := Hd (HBB1.out.trans (hb.mono HBB1.out.size)); have kk2 := hb_below K1.out hb (hb_lt K1.out); have LX2 := Hd (LX1.out.under rfl hb); have HK2 := Hd (HK1.out.below hb); have K2 := Hd kk2; obtain ⟨r2_0, r2_1, r2_2, r2_3, r2_4⟩ := hb5 kk2; clear hb kk2))
          | (go_at_call 84; ((with_reducible refine (Hb3.out _).mono ?_); rintro e w3 ⟨rfl, hb⟩; have HBB3 := Hd (HBB2.out.trans (hb.mono HBB2.out.size)); have kk3 := hb_below K2.out hb (hb_lt K2.out); have LX3 := Hd (LX2.out.under rfl hb); have HK3 := Hd (HK2.out.below hb); have K3 := Hd kk3; obtain ⟨r3_0, r3_1, r3_2, r3_3, r3_4⟩ := hb5 kk3; clear hb kk3)))
         go_ret
         exact ⟨rfl, HBB3.out⟩
       · skip
         go_enter Tryz.func29, Tryz.ntmps29
         go_wp2_with (first
          | (go_at_call 82; ((with_reducible refine (Hb1.out _).mono ?_); rintro e w1 ⟨rfl, hb⟩; have HBB1 := Hd ((below_alloc w _).trans (hb.mono (by simp))); have kk1 := hb_below K0.out hb (by simp); have LX1 := Hd ((LX0.out _).under rfl hb); have HK1 := Hd (HK0.out.below hb); have K1 := Hd kk1; obtain ⟨r1_0, r1_1, r1_2, r1_3, r1_4⟩ := hb5 kk1; clear hb kk1))
          | (go_at_call 63; ((with_reducible refine (Hb2.out _).mono ?_); rintro e w2 ⟨rfl, hb⟩; have HBB2 := Hd (HBB1.out.trans (hb.mono HBB1.out.size)); have kk2 := hb_below K1.out hb (hb_lt K1.out); have LX2 := Hd (LX1.out.under rfl hb); have HK2 := Hd (HK1.out.below hb); have K2 := Hd kk2; obtain ⟨r2_0, r2_1, r2_2, r2_3, r2_4⟩ := hb5 kk2; clear hb kk2))
          | (go_at_call 84; ((with_reducible refine (Hb3.out _).mono ?_); rintro e w3 ⟨rfl, hb⟩; have HBB3 := Hd (HBB2.out.trans (hb.mono HBB2.out.size)); have kk3 := hb_below K2.out hb (hb_lt K2.out); have LX3 := Hd (LX2.out.under rfl hb); have HK3 := Hd (HK2.out.below hb); have K3 := Hd kk3; obtain ⟨r3_0, r3_1, r3_2, r3_3, r3_4⟩ := hb5 kk3; clear hb kk3))
          | (go_at_call 85; ((with_reducible refine (Hb4.out _ LX3.out HK3.out).mono ?_); rintro e w4 ⟨rfl, hb⟩; have HBB4 := Hd (HBB3.out.trans (hb.mono HBB3.out.size)); have kk4 := hb_below K3.out hb (hb_lt K3.out); have LX4 := Hd (LX3.out.under rfl hb); have HK4 := Hd (HK3.out.below hb); have K4 := Hd kk4; obtain ⟨r4_0, r4_1, r4_2, r4_3, r4_4⟩ := hb5 kk4; clear hb kk4)))
         go_ret
         exact ⟨rfl, HBB4.out⟩
 have d2 : (k == 2) = false := by simpa using hk2
 by_cases hk3 : k = 3
 · subst hk3
   rw [show typeB (d + 1) (.mk 3 p n N kids) = (onlyB ⟨#[]⟩ p n N && ((kids.length == 2) && (kids.all (typeB d)))) from by rw [typeB, if_neg (by decide), if_neg (by decide), if_pos rfl, only_no, zip_two]]
   have Hb1 := Hd (fun W => only_any 3 p n N q kids.length c ⟨#[]⟩ (by decide) W)
   have Hb4 := Hd (fun W hW hk => types_any (typeB d) d kids hd hg (.slice q kids.length c) W hW hk)
   have hnew := hb_new w (.cells #[.int .i64 3, .string p, .string n, .int .i64 N, .slice q kids.length c] 24)
   have K0 := Hd hnew
   have LX0 := Hd (fun o => hw.under rfl (below_alloc w o))
   have HK0 := Hd (hk.below (below_alloc w (.cells #[.int .i64 3, .string p, .string n, .int .i64 N, .slice q kids.length c] 24)))
   have hL2 : ((kids.length : Int) == 2) = (kids.length == 2) := by rw [Bool.eq_iff_iff]; simp; omega
   generalize onlyB ⟨#[]⟩ p n N = b1 at *
   generalize (kids.length == 2) = b2 at *
   generalize kids.all (typeB d) = b4 at *
   clear hw hk hG hg hp hn hN' hd hnew
   cases b1
   · go_enter Tryz.func29, Tryz.ntmps29
     go_wp2_with (go_at_call 82; ((with_reducible refine (Hb1.out _).mono ?_); rintro e w1 ⟨rfl, hb⟩; have HBB1 := Hd ((below_alloc w _).trans (hb.mono (by simp))); have kk1 := hb_below K0.out hb (by simp); have LX1 := Hd ((LX0.out _).under rfl hb); have HK1 := Hd (HK0.out.below hb); have K1 := Hd kk1; obtain ⟨r1_0, r1_1, r1_2, r1_3, r1_4⟩ := hb5 kk1; clear hb kk1))
     go_ret
     exact ⟨rfl, HBB1.out⟩
   · skip
     cases b2
     · go_enter Tryz.func29, Tryz.ntmps29
       go_wp2_with (go_at_call 82; ((with_reducible refine (Hb1.out _).mono ?_); rintro e w1 ⟨rfl, hb⟩; have HBB1 := Hd ((below_alloc w _).trans (hb.mono (by simp))); have kk1 := hb_below K0.out hb (by simp); have LX1 := Hd ((LX0.out _).under rfl hb); have HK1 := Hd (HK0.out.below hb); have K1 := Hd kk1; obtain ⟨r1_0, r1_1, r1_2, r1_3, r1_4⟩ := hb5 kk1; clear hb kk1))
       go_ret
       exact ⟨rfl, HBB1.out⟩
     · skip
       go_enter Tryz.func29, Tryz.ntmps29
       go_wp2_with (first
        | (go_at_call 82; ((with_reducible refine (Hb1.out _).mono ?_); rintro e w1 ⟨rfl, hb⟩; have HBB1 := Hd ((below_alloc w _).trans (hb.mono (by simp))); have kk1 := hb_below K0.out hb (by simp); have LX1 := Hd ((LX0.out _).under rfl hb); have HK1 := Hd (HK0.out.below hb); have K1 := Hd kk1; obtain ⟨r1_0, r1_1, r1_2, r1_3, r1_4⟩ := hb5 kk1; clear hb kk1))
        | (go_at_call 85; ((with_reducible refine (Hb4.out _ LX1.out HK1.out).mono ?_); rintro e w2 ⟨rfl, hb⟩; have HBB2 := Hd (HBB1.out.trans (hb.mono HBB1.out.size)); have kk2 := hb_below K1.out hb (hb_lt K1.out); have LX2 := Hd (LX1.out.under rfl hb); have HK2 := Hd (HK1.out.below hb); have K2 := Hd kk2; obtain ⟨r2_0, r2_1, r2_2, r2_3, r2_4⟩ := hb5 kk2; clear hb kk2)))
       go_ret
       exact ⟨rfl, HBB2.out⟩
 have d3 : (k == 3) = false := by simpa using hk3
 by_cases hk4 : k = 4
 · subst hk4
   rw [show typeB (d + 1) (.mk 4 p n N kids) = (onlyB ⟨#[]⟩ p n N && ((kids.length != 1) && (kids.all (typeB d)))) from by rw [typeB, if_neg (by decide), if_neg (by decide), if_neg (by decide), if_pos rfl, only_no]; rfl]
   have Hb1 := Hd (fun W => only_any 4 p n N q kids.length c ⟨#[]⟩ (by decide) W)
   have Hb4 := Hd (fun W hW hk => types_any (typeB d) d kids hd hg (.slice q kids.length c) W hW hk)
   have hnew := hb_new w (.cells #[.int .i64 4, .string p, .string n, .int .i64 N, .slice q kids.length c] 24)
   have K0 := Hd hnew
   have LX0 := Hd (fun o => hw.under rfl (below_alloc w o))
   have HK0 := Hd (hk.below (below_alloc w (.cells #[.int .i64 4, .string p, .string n, .int .i64 N, .slice q kids.length c] 24)))
   have hL1 : ((kids.length : Int) != 1) = (kids.length != 1) := by rw [Bool.eq_iff_iff]; simp; omega
   generalize onlyB ⟨#[]⟩ p n N = b1 at *
   generalize (kids.length != 1) = b2 at *
   generalize kids.all (typeB d) = b4 at *
   clear hw hk hG hg hp hn hN' hd hnew
   cases b1
   · go_enter Tryz.func29, Tryz.ntmps29
     go_wp2_with (go_at_call 82; ((with_reducible refine (Hb1.out _).mono ?_); rintro e w1 ⟨rfl, hb⟩; have HBB1 := Hd ((below_alloc w _).trans (hb.mono (by simp))); have kk1 := hb_below K0.out hb (by simp); have LX1 := Hd ((LX0.out _).under rfl hb); have HK1 := Hd (HK0.out.below hb); have K1 := Hd kk1; obtain ⟨r1_0, r1_1, r1_2, r1_3, r1_4⟩ := hb5 kk1; clear hb kk1))
     go_ret
     exact ⟨rfl, HBB1.out⟩
   · skip
     cases b2
     · go_enter Tryz.func29, Tryz.ntmps29
       go_wp2_with (go_at_call 82; ((with_reducible refine (Hb1.out _).mono ?_); rintro e w1 ⟨rfl, hb⟩; have HBB1 := Hd ((below_alloc w _).trans (hb.mono (by simp))); have kk1 := hb_below K0.out hb (by simp); have LX1 := Hd ((LX0.out _).under rfl hb); have HK1 := Hd (HK0.out.below hb); have K1 := Hd kk1; obtain ⟨r1_0, r1_1, r1_2, r1_3, r1_4⟩ := hb5 kk1; clear hb kk1))
       go_ret
       exact ⟨rfl, HBB1.out⟩
     · skip
       go_enter Tryz.func29, Tryz.ntmps29
       go_wp2_with (first
        | (go_at_call 82; ((with_reducible refine (Hb1.out _).mono ?_); rintro e w1 ⟨rfl, hb⟩; have HBB1 := Hd ((below_alloc w _).trans (hb.mono (by simp))); have kk1 := hb_below K0.out hb (by simp); have LX1 := Hd ((LX0.out _).under rfl hb); have HK1 := Hd (HK0.out.below hb); have K1 := Hd kk1; obtain ⟨r1_0, r1_1, r1_2, r1_3, r1_4⟩ := hb5 kk1; clear hb kk1))
        | (go_at_call 85; ((with_reducible refine (Hb4.out _ LX1.out HK1.out).mono ?_); rintro e w2 ⟨rfl, hb⟩; have HBB2 := Hd (HBB1.out.trans (hb.mono HBB1.out.size)); have kk2 := hb_below K1.out hb (hb_lt K1.out); have LX2 := Hd (LX1.out.under rfl hb); have HK2 := Hd (HK1.out.below hb); have K2 := Hd kk2; obtain ⟨r2_0, r2_1, r2_2, r2_3, r2_4⟩ := hb5 kk2; clear hb kk2)))
       go_ret
       exact ⟨rfl, HBB2.out⟩
 have d4 : (k == 4) = false := by simpa using hk4
 rw [show typeB (d + 1) (.mk k p n N kids) = false from by simp only [typeB, if_neg hk1, if_neg hk2, if_neg hk3, if_neg hk4]]
 clear hw hk hG hg hp hn hN' hd
 go_enter Tryz.func29, Tryz.ntmps29
 go_wp2
 go_ret
 exact ⟨rfl, below_alloc w _⟩
theorem type_any (d : Nat) : Judge 28 (typeB d) d := by
 induction d with
 | zero => intro v x W h; cases h
 | succ d ih => exact type_next d ih
theorem typeD_any (d : Nat) : Judge 29 (typeB d) d := by
 induction d with
 | zero => intro v x W h; cases h
 | succ d ih => exact typeD_next d ih
end Go.Proofs.YtmkjalnlldpdcaaGreatDoor
