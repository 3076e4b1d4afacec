/- Texts in a row: Jd Je Jf Jg. -/
import Derived.Test.YtmkjalnlldpdcaaGreatDoorZA16
/- Are all Kids so? -/
namespace Go.Proofs.YtmkjalnlldpdcaaGreatDoor
open Go.RowKit
set_option linter.unusedSimpArgs false
set_option linter.unusedVariables false
/-- Names are short, numbers are ints. -/
def Gd : Nat → Tm → Prop
  | 0, _ => True
  | d + 1, .mk _ p n N kids => p.size ≤ 100000 ∧ n.size ≤ 100000 ∧ Fits ⟨4, ⟨#[]⟩, N⟩ ∧ ∀ x ∈ kids, Gd d x
/-- A function that judges terms, of a depth. -/
def Judge (K : Nat) (f : Tm → Bool) (d : Nat) : Prop := ∀ (v : Value) (x : Tm) (W : World), IsT W d v x → Gd d x → LxW W → Calls Tryz.prog K #[v] W (Ans (f x) W)
theorem kids_no {f : Tm → Bool} {kids : List Tm} {x : Tm} (hx : x ∈ kids) (hf : f x = false) : kids.all f = false := by
  cases e : kids.all f with
  | false => rfl
  | true =>
    have := List.all_eq_true.1 e x hx
    rw [hf] at this
    cases this
theorem take_all {f : Tm → Bool} {kids : List Tm} {k : Nat} {x : Tm} (hx : kids[k]? = some x) (hP : ∀ y ∈ kids.take k, f y = true) (hf : f x = true) : ∀ y ∈ kids.take (k + 1), f y = true := by
  intro y hy
  rw [take_nextJ hx] at hy
  rcases List.mem_append.1 hy with h | h
  · exact hP y h
  · rw [List.mem_singleton.1 h]; exact hf
set_option maxRecDepth 100000 in
set_option maxHeartbeats 2000000 in
theorem areAll_any9 (f : Tm → Bool) (d : Nat) (kids : List Tm) (h : Judge 28 f d) (hG : ∀ x ∈ kids, Gd d x) (s : Value) (w : World) (hw : LxW w) (hk : KidsT w d s kids) : Calls Tryz.prog 79 #[s, .func (.func 28) #[] #[]] w (Ans (kids.all f) w) := by
  obtain ⟨q, c, rfl, hm, hr⟩ := hk
  unfold maxLen at hm
  have HR := Lib.hid hr
  unfold Judge at h
  have HA := Lib.hid h
  have HW := Lib.hid hw
  have HGD := Lib.hid hG
  clear hr h hw hG
  go_enter Tryz.func79, Tryz.ntmps79
  go_wp2
  go_loopw [9] (fun i wr => ∃ k : Nat, k ≤ kids.length ∧ i = .int .i64 k ∧ (∀ x ∈ kids.take k, f x = true) ∧ Below w.heap.size w wr) (fun i _ => kids.length - (intOf i).toNat)
  case atStart => exact ⟨0, Nat.zero_le _, rfl, (fun x hx => by simp at hx), Below.refl _ _⟩
  case round =>
    obtain ⟨k, hk, rfl, hP, hB⟩ := hrel
    have hzr := hB.size
    have HB := Lib.hid hB
    have HP := Lib.hid hP
    clear hP
    by_cases hlt : k < kids.length
    · have hx1 := List.getElem?_eq_getElem hlt
      generalize kids[k] = x at *
      obtain ⟨b1, o1, k1', p1', n1', N1', s1', hq1, ha1, ht1⟩ := HR.out k x hx1
      subst hq1
      obtain ⟨q3, l3, c3, hs3⟩ := ht1.spell
      subst hs3
      obtain ⟨x0, x1, x2, x3, x4⟩ := ha1.below hB ha1.lt
      have hxm : x ∈ kids := List.mem_of_getElem? hx1
      have HC : RowKit.Hid (∀ W, Below wr.heap.size wr W → Calls Tryz.prog 28 #[tv k1' p1' n1' N1' (.slice q3 l3 c3)] W (Ans (f x) W)) :=
        Lib.hid fun W hW => HA.out _ x W ((ht1.below hB).below hW) (HGD.out x hxm) ((HW.out.below hB).below hW)
      have HX := Lib.hid hx1
      have HXM := Lib.hid hxm
      clear hx1 ht1 ha1 hB hxm
      cases hf : f x
      · have HF := Lib.hid hf
        rw [hf] at HC
        clear hf
        go_wp2_with (go_at_call 28; ((with_reducible refine (HC.out _ (below_alloc wr _)).mono ?_); rintro e w3 ⟨rfl, hb⟩))
        have HQ := Lib.hid (HB.out.trans (((below_alloc wr _).trans (hb.mono (by simp))).mono hzr))
        go_ret
        exact ⟨ret_bool (kids_no HXM.out HF.out).symm, HQ.out⟩
      · have HF := Lib.hid hf
        rw [hf] at HC
        clear hf
        go_wp2_with (go_at_call 28; ((with_reducible refine (HC.out _ (below_alloc wr _)).mono ?_); rintro e w3 ⟨rfl, hb⟩))
        have HQ := Lib.hid (HB.out.trans (((below_alloc wr _).trans (hb.mono (by simp))).mono hzr))
        go_roundw
        case rel => exact ⟨k + 1, by omega, by go_num, take_all HX.out HP.out HF.out, HQ.out⟩
        case measure => simp [intOf]; omega
    · obtain rfl : k = kids.length := by omega
      rw [List.take_length] at HP
      go_wp2
      go_ret
      exact ⟨ret_bool (List.all_eq_true.2 HP.out).symm, HB.out⟩
set_option maxRecDepth 100000 in
set_option maxHeartbeats 2000000 in
theorem areAll_any11 (f : Tm → Bool) (d : Nat) (kids : List Tm) (h : Judge 31 f d) (hG : ∀ x ∈ kids, Gd d x) (s : Value) (w : World) (hw : LxW w) (hk : KidsT w d s kids) : Calls Tryz.prog 79 #[s, .func (.func 31) #[] #[]] w (Ans (kids.all f) w) := by
  obtain ⟨q, c, rfl, hm, hr⟩ := hk
  unfold maxLen at hm
  have HR := Lib.hid hr
  unfold Judge at h
  have HA := Lib.hid h
  have HW := Lib.hid hw
  have HGD := Lib.hid hG
  clear hr h hw hG
  go_enter Tryz.func79, Tryz.ntmps79
  go_wp2
  go_loopw [9] (fun i wr => ∃ k : Nat, k ≤ kids.length ∧ i = .int .i64 k ∧ (∀ x ∈ kids.take k, f x = true) ∧ Below w.heap.size w wr) (fun i _ => kids.length - (intOf i).toNat)
  case atStart => exact ⟨0, Nat.zero_le _, rfl, (fun x hx => by simp at hx), Below.refl _ _⟩
  case round =>
    obtain ⟨k, hk, rfl, hP, hB⟩ := hrel
    have hzr := hB.size
    have HB := Lib.hid hB
    have HP := Lib.hid hP
    clear hP
    by_cases hlt : k < kids.length
    · have hx1 := List.getElem?_eq_getElem hlt
      generalize kids[k] = x at *
      obtain ⟨b1, o1, k1', p1', n1', N1', s1', hq1, ha1, ht1⟩ := HR.out k x hx1
      subst hq1
      obtain ⟨q3, l3, c3, hs3⟩ := ht1.spell
      subst hs3
      obtain ⟨x0, x1, x2, x3, x4⟩ := ha1.below hB ha1.lt
      have hxm : x ∈ kids := List.mem_of_getElem? hx1
      have HC : RowKit.Hid (∀ W, Below wr.heap.size wr W → Calls Tryz.prog 31 #[tv k1' p1' n1' N1' (.slice q3 l3 c3)] W (Ans (f x) W)) :=
        Lib.hid fun W hW => HA.out _ x W ((ht1.below hB).below hW) (HGD.out x hxm) ((HW.out.below hB).below hW)
      have HX := Lib.hid hx1
      have HXM := Lib.hid hxm
      clear hx1 ht1 ha1 hB hxm
      cases hf : f x
      · have HF := Lib.hid hf
        rw [hf] at HC
        clear hf
        go_wp2_with (go_at_call 31; ((with_reducible refine (HC.out _ (below_alloc wr _)).mono ?_); rintro e w3 ⟨rfl, hb⟩))
        have HQ := Lib.hid (HB.out.trans (((below_alloc wr _).trans (hb.mono (by simp))).mono hzr))
        go_ret
        exact ⟨ret_bool (kids_no HXM.out HF.out).symm, HQ.out⟩
      · have HF := Lib.hid hf
        rw [hf] at HC
        clear hf
        go_wp2_with (go_at_call 31; ((with_reducible refine (HC.out _ (below_alloc wr _)).mono ?_); rintro e w3 ⟨rfl, hb⟩))
        have HQ := Lib.hid (HB.out.trans (((below_alloc wr _).trans (hb.mono (by simp))).mono hzr))
        go_roundw
        case rel => exact ⟨k + 1, by omega, by go_num, take_all HX.out HP.out HF.out, HQ.out⟩
        case measure => simp [intOf]; omega
    · obtain rfl : k = kids.length := by omega
      rw [List.take_length] at HP
      go_wp2
      go_ret
      exact ⟨ret_bool (List.all_eq_true.2 HP.out).symm, HB.out⟩
set_option maxRecDepth 100000 in
set_option maxHeartbeats 2000000 in
theorem areAll_any13 (f : Tm → Bool) (d : Nat) (kids : List Tm) (h : Judge 34 f d) (hG : ∀ x ∈ kids, Gd d x) (s : Value) (w : World) (hw : LxW w) (hk : KidsT w d s kids) : Calls Tryz.prog 79 #[s, .func (.func 34) #[] #[]] w (Ans (kids.all f) w) := by
  obtain ⟨q, c, rfl, hm, hr⟩ := hk
  unfold maxLen at hm
  have HR := Lib.hid hr
  unfold Judge at h
  have HA := Lib.hid h
  have HW := Lib.hid hw
  have HGD := Lib.hid hG
  clear hr h hw hG
  go_enter Tryz.func79, Tryz.ntmps79
  go_wp2
  go_loopw [9] (fun i wr => ∃ k : Nat, k ≤ kids.length ∧ i = .int .i64 k ∧ (∀ x ∈ kids.take k, f x = true) ∧ Below w.heap.size w wr) (fun i _ => kids.length - (intOf i).toNat)
  case atStart => exact ⟨0, Nat.zero_le _, rfl, (fun x hx => by simp at hx), Below.refl _ _⟩
  case round =>
    obtain ⟨k, hk, rfl, hP, hB⟩ := hrel
    have hzr := hB.size
    have HB := Lib.hid hB
    have HP := Lib.hid hP
    clear hP
    by_cases hlt : k < kids.length
    · have hx1 := List.getElem?_eq_getElem hlt
      generalize kids[k] = x at *
      obtain ⟨b1, o1, k1', p1', n1', N1', s1', hq1, ha1, ht1⟩ := HR.out k x hx1
      subst hq1
      obtain ⟨q3, l3, c3, hs3⟩ := ht1.spell
      subst hs3
      obtain ⟨x0, x1, x2, x3, x4⟩ := ha1.below hB ha1.lt
      have hxm : x ∈ kids := List.mem_of_getElem? hx1
      have HC : RowKit.Hid (∀ W, Below wr.heap.size wr W → Calls Tryz.prog 34 #[tv k1' p1' n1' N1' (.slice q3 l3 c3)] W (Ans (f x) W)) :=
        Lib.hid fun W hW => HA.out _ x W ((ht1.below hB).below hW) (HGD.out x hxm) ((HW.out.below hB).below hW)
      have HX := Lib.hid hx1
      have HXM := Lib.hid hxm
      clear hx1 ht1 ha1 hB hxm
      cases hf : f x
      · have HF := Lib.hid hf
        rw [hf] at HC
        clear hf
        go_wp2_with (go_at_call 34; ((with_reducible refine (HC.out _ (below_alloc wr _)).mono ?_); rintro e w3 ⟨rfl, hb⟩))
        have HQ := Lib.hid (HB.out.trans (((below_alloc wr _).trans (hb.mono (by simp))).mono hzr))
        go_ret
        exact ⟨ret_bool (kids_no HXM.out HF.out).symm, HQ.out⟩
      · have HF := Lib.hid hf
        rw [hf] at HC
        clear hf
        go_wp2_with (go_at_call 34; ((with_reducible refine (HC.out _ (below_alloc wr _)).mono ?_); rintro e w3 ⟨rfl, hb⟩))
        have HQ := Lib.hid (HB.out.trans (((below_alloc wr _).trans (hb.mono (by simp))).mono hzr))
        go_roundw
        case rel => exact ⟨k + 1, by omega, by go_num, take_all HX.out HP.out HF.out, HQ.out⟩
        case measure => simp [intOf]; omega
    · obtain rfl : k = kids.length := by omega
      rw [List.take_length] at HP
      go_wp2
      go_ret
      exact ⟨ret_bool (List.all_eq_true.2 HP.out).symm, HB.out⟩
end Go.Proofs.YtmkjalnlldpdcaaGreatDoor
/- Are the Kids these ones? -/
namespace Go.Proofs.YtmkjalnlldpdcaaGreatDoor
open Go.RowKit
set_option linter.unusedSimpArgs false
set_option linter.unusedVariables false
/-- Which function judges a Kid: 9 or 13. -/
def byF (f9 f13 : Tm → Bool) (K : Nat) (x : Tm) : Bool := if K = 28 then f9 x else f13 x
def zipB (f9 f13 : Tm → Bool) : List Nat → List Tm → Bool
  | [], [] => true
  | K :: fs, x :: kids => byF f9 f13 K x && zipB f9 f13 fs kids
  | _, _ => false
theorem zip_len {f9 f13 : Tm → Bool} : ∀ {fs : List Nat} {kids : List Tm}, fs.length ≠ kids.length → zipB f9 f13 fs kids = false := by
  intro fs
  induction fs with
  | nil => intro kids h; cases kids with
    | nil => exact absurd rfl h
    | cons x kids => rfl
  | cons K fs ih => intro kids h; cases kids with
    | nil => rfl
    | cons x kids =>
      have := ih (kids := kids) (fun e => h (by simp [e]))
      simp [zipB, this]
theorem zip_at {f9 f13 : Tm → Bool} : ∀ {fs : List Nat} {kids : List Tm} {k K : Nat} {x : Tm}, kids[k]? = some x → fs[k]? = some K → byF f9 f13 K x = false → zipB f9 f13 fs kids = false := by
  intro fs
  induction fs with
  | nil => intro kids k K x _ h2 _; simp at h2
  | cons L fs ih => intro kids k K x h1 h2 h3; cases kids with
    | nil => rfl
    | cons y kids =>
      cases k with
      | zero => simp at h1 h2; subst h1 h2; simp [zipB, h3]
      | succ k =>
        simp at h1 h2
        have := ih h1 h2 h3
        simp [zipB, this]
theorem zip_yes {f9 f13 : Tm → Bool} : ∀ {fs : List Nat} {kids : List Tm}, fs.length = kids.length → (∀ (j K : Nat) x, kids[j]? = some x → fs[j]? = some K → byF f9 f13 K x = true) → zipB f9 f13 fs kids = true := by
  intro fs
  induction fs with
  | nil => intro kids h _; cases kids with
    | nil => rfl
    | cons x kids => cases h
  | cons L fs ih => intro kids h h2; cases kids with
    | nil => cases h
    | cons y kids =>
      have h0 := h2 0 L y rfl rfl
      have := ih (kids := kids) (by simpa using h) (fun j K x hx hf => h2 (j + 1) K x (by simpa using hx) (by simpa using hf))
      simp [zipB, this, h0]
theorem zip_no9 {f9 f13 : Tm → Bool} {fs : List Nat} {kids : List Tm} {k : Nat} {x : Tm} (h1 : kids[k]? = some x) (h2 : fs[k]? = some 28) (h3 : f9 x = false) : zipB f9 f13 fs kids = false := zip_at h1 h2 (by simpa [byF] using h3)
theorem zip_no13 {f9 f13 : Tm → Bool} {fs : List Nat} {kids : List Tm} {k : Nat} {x : Tm} (h1 : kids[k]? = some x) (h2 : fs[k]? = some 34) (h3 : f13 x = false) : zipB f9 f13 fs kids = false := zip_at h1 h2 (by simpa [byF] using h3)
theorem zip_next {f9 f13 : Tm → Bool} {fs : List Nat} {kids : List Tm} {k L : Nat} {y : Tm} (h1 : kids[k]? = some y) (h2 : fs[k]? = some L) (hP : ∀ (j K : Nat) x, j < k → kids[j]? = some x → fs[j]? = some K → byF f9 f13 K x = true) (h3 : byF f9 f13 L y = true) :
    ∀ (j K : Nat) x, j < k + 1 → kids[j]? = some x → fs[j]? = some K → byF f9 f13 K x = true := by
  intro j K x hj hx hf
  by_cases e : j = k
  · subst e
    rw [h1] at hx
    rw [h2] at hf
    cases hx
    cases hf
    exact h3
  · exact hP j K x (by omega) hx hf
set_option maxRecDepth 100000 in
set_option maxHeartbeats 8000000 in
theorem isOf_any (f9 f13 : Tm → Bool) (fs : List Nat) (hfs : ∀ K ∈ fs, K = 28 ∨ K = 34) (hfl : fs.length ≤ 3) (d : Nat) (kids : List Tm) (h9 : 28 ∈ fs → Judge 28 f9 d) (h13 : 34 ∈ fs → Judge 34 f13 d) (hG : ∀ x ∈ kids, Gd d x) (s : Value) (g : Nat) (w : World) (hw : LxW w) (hk : KidsT w d s kids)
    (hg : ∀ j K, fs[j]? = some K → w.cell? ⟨g, j, none⟩ = some (.func (.func K) #[] #[])) (hgw : g < w.heap.size) :
    Calls Tryz.prog 77 #[s, .slice (some ⟨g, 0, none⟩) fs.length fs.length] w (Ans (zipB f9 f13 fs kids) w) := by
  obtain ⟨q, c, rfl, hm, hr⟩ := hk
  unfold maxLen at hm
  by_cases hl : kids.length = fs.length
  rotate_left
  · have hli : ((kids.length : Int) != (fs.length : Int)) = true := by simp; omega
    have HZ := Lib.hid (zip_len (f9 := f9) (f13 := f13) (fun e => hl e.symm))
    clear h9 h13 hr hg
    go_enter Tryz.func77, Tryz.ntmps77
    go_wp2
    go_ret
    exact ⟨ret_bool HZ.out.symm, Below.refl _ _⟩
  have hli : ((kids.length : Int) != (fs.length : Int)) = false := by simp; omega
  have HLE := Lib.hid hl
  clear hl
  have HR := Lib.hid hr
  have HG := Lib.hid hg
  unfold Judge at h9 h13
  have H9 := Lib.hid h9
  have H13 := Lib.hid h13
  have HW := Lib.hid hw
  have HGD := Lib.hid hG
  have HFS := Lib.hid hfs
  clear hr h9 h13 hg hw hG hfs
  go_enter Tryz.func77, Tryz.ntmps77
  go_wp2
  go_loopw [14] (fun i wr => ∃ k : Nat, k ≤ kids.length ∧ i = .int .i64 k ∧ (∀ (j K : Nat) x, j < k → kids[j]? = some x → fs[j]? = some K → byF f9 f13 K x = true) ∧ Below w.heap.size w wr) (fun i _ => kids.length - (intOf i).toNat)
  case atStart => exact ⟨0, Nat.zero_le _, rfl, (fun j K x hj => absurd hj (by omega)), Below.refl _ _⟩
  case round =>
    obtain ⟨k, hk, rfl, hP, hB⟩ := hrel
    have hzr := hB.size
    have HB := Lib.hid hB
    have HP := Lib.hid hP
    clear hP
    by_cases hlt : k < kids.length
    · have hx1 := List.getElem?_eq_getElem hlt
      generalize kids[k] = x at *
      obtain ⟨b1, o1, k1', p1', n1', N1', s1', hq1, ha1, ht1⟩ := HR.out k x hx1
      subst hq1
      obtain ⟨q3, l3, c3, hs3⟩ := ht1.spell
      subst hs3
      obtain ⟨x0, x1, x2, x3, x4⟩ := ha1.below hB ha1.lt
      have hxm : x ∈ kids := List.mem_of_getElem? hx1
      have HX := Lib.hid hx1
      have hki : (k : Int) < (kids.length : Int) := by omega
      have hkf : k < fs.length := by have := HLE.out; omega
      have hkfi : (k : Int) < (fs.length : Int) := by omega
      have hgr : g < wr.heap.size := by omega
      have k0 := hb_new wr (.cells #[.int .i64 k1', .string p1', .string n1', .int .i64 N1', .slice q3 l3 c3] 24)
      have K0 := Lib.hid k0
      have hfk0 : ∃ K, fs[k]? = some K ∧ (K = 28 ∨ K = 34) := ⟨fs[k], List.getElem?_eq_getElem hkf, HFS.out _ (List.getElem_mem hkf)⟩
      obtain ⟨K, hfk, hK⟩ := hfk0
      rcases hK with rfl | rfl
      · have m0 : wr.cell? ⟨g, k, none⟩ = some (.func (.func 28) #[] #[]) := (hB.cell (p := ⟨g, k, none⟩) hgw).trans (HG.out k _ hfk)
        have HC : RowKit.Hid (∀ W, Below wr.heap.size wr W → Calls Tryz.prog 28 #[tv k1' p1' n1' N1' (.slice q3 l3 c3)] W (Ans (f9 x) W)) :=
          Lib.hid fun W hW => H9.out (List.mem_of_getElem? hfk) _ x W ((ht1.below hB).below hW) (HGD.out x hxm) ((HW.out.below hB).below hW)
        have HFX : RowKit.Hid (fs[k]? = some 28) := Lib.hid hfk
        clear hx1 ht1 ha1 hB hxm hfk k0
        cases hf : f9 x
        · have HF := Lib.hid hf
          rw [hf] at HC
          clear hf
          go_wp2
          refine wp_region_held_drew (S := (fun w' => RowKit.Hid (Below wr.heap.size wr w') ∧ w'.cell? ⟨g, k, none⟩ = some (.func (.func 28) #[] #[]) ∧ w'.cell? ⟨wr.heap.size, 0, none⟩ = some (.int .i64 k1') ∧ w'.cell? ⟨wr.heap.size, 1, none⟩ = some (.string p1') ∧ w'.cell? ⟨wr.heap.size, 2, none⟩ = some (.string n1') ∧ w'.cell? ⟨wr.heap.size, 3, none⟩ = some (.int .i64 N1') ∧ w'.cell? ⟨wr.heap.size, 4, none⟩ = some (.slice q3 l3 c3))) (by kernel_rfl) (by exact ⟨Lib.hid (below_drewN (below_alloc wr _) 1), keep_cell (below_drewN (below_alloc wr (.cells #[.int .i64 k1', .string p1', .string n1', .int .i64 N1', .slice q3 l3 c3] 24)) 1) m0, hb_at K0.out 0 rfl, hb_at K0.out 1 rfl, hb_at K0.out 2 rfl, hb_at K0.out 3 rfl, hb_at K0.out 4 rfl⟩) (fun hHeld => ?_)
          refine wpAnyH_take (i := 0) (oi := ⟨some 19, _, _, _, _, _⟩) (v := ?_) rfl (by kernel_rfl) (by kernel_rfl) (by kernel_rfl) (fun _ _ _ h => h) (Or.inl ⟨by rfl, ?_⟩) (by assumption) ?_
          rotate_left
          focus (intro w hSw; (try dsimp only at hSw); go_simp; first | done | with_reducible rfl)
          try simp only [Act.put, List.setIfInBounds_toArray, List.set_cons_zero, List.set_cons_succ]
          refine wpAnyH_take (i := 1) (oi := ⟨some 20, _, _, _, _, _⟩) (v := ?_) rfl (by kernel_rfl) (by kernel_rfl) (by kernel_rfl) (fun _ _ _ h => h) (Or.inl ⟨by rfl, ?_⟩) (by assumption) ?_
          rotate_left
          focus (intro w hSw; (try dsimp only at hSw); go_simp; first | done | with_reducible rfl)
          try simp only [Act.put, List.setIfInBounds_toArray, List.set_cons_zero, List.set_cons_succ]
          refine wpAnyH_take (i := 2) (oi := ⟨some 21, _, _, _, _, _⟩) (v := ?_) rfl (by kernel_rfl) (by kernel_rfl) (by kernel_rfl) (fun _ _ _ h => h) (Or.inl ⟨by rfl, ?_⟩) (by assumption) ?_
          rotate_left
          focus (intro w hSw; (try dsimp only at hSw); go_simp; first | done | with_reducible rfl)
          try simp only [Act.put, List.setIfInBounds_toArray, List.set_cons_zero, List.set_cons_succ]
          refine wpAnyH_take (i := 3) (oi := ⟨some 22, _, _, _, _, _⟩) (v := ?_) rfl (by kernel_rfl) (by kernel_rfl) (by kernel_rfl) (fun _ _ _ h => h) (Or.inl ⟨by rfl, ?_⟩) (by assumption) ?_
          rotate_left
          focus (intro w hSw; (try dsimp only at hSw); go_simp; first | done | with_reducible rfl)
          try simp only [Act.put, List.setIfInBounds_toArray, List.set_cons_zero, List.set_cons_succ]
          refine wpAnyH_take (i := 4) (oi := ⟨some 23, _, _, _, _, _⟩) (v := ?_) rfl (by kernel_rfl) (by kernel_rfl) (by kernel_rfl) (fun _ _ _ h => h) (Or.inl ⟨by rfl, ?_⟩) (by assumption) ?_
          rotate_left
          focus (intro w hSw; (try dsimp only at hSw); go_simp; first | done | with_reducible rfl)
          try simp only [Act.put, List.setIfInBounds_toArray, List.set_cons_zero, List.set_cons_succ]
          refine wpAnyH_ready (rs := [5]) (by kernel_rfl) (by simp) ?_
          refine AllReadyH.cons (o := ⟨some 24, _, _, _, _, _⟩) rfl (fun K hK => ?_) AllReadyH.nil
          go_simp
          ((with_reducible refine (HC.out _ hHeld.1.out).mono ?_); rintro e w3 ⟨rfl, hb⟩)
          go_wp2_with fail
          refine hK.out _ _ (by exact ⟨Lib.hid (hHeld.1.out.trans (hb.mono hHeld.1.out.size)), keep_cell hb hHeld.2.1, keep_cell hb hHeld.2.2.1, keep_cell hb hHeld.2.2.2.1, keep_cell hb hHeld.2.2.2.2.1, keep_cell hb hHeld.2.2.2.2.2.1, keep_cell hb hHeld.2.2.2.2.2.2⟩) (fun hNew => ?_)
          clear hK K
          clear hHeld hb; have hHeld := hNew; clear hNew
          try simp only [Act.put, List.setIfInBounds_toArray, List.set_cons_zero, List.set_cons_succ]
          refine wpAnyH_take (i := 6) (oi := ⟨some 25, _, _, _, _, _⟩) (v := ?_) rfl (by kernel_rfl) (by kernel_rfl) (by kernel_rfl) (fun _ _ _ h => h) (Or.inl ⟨by rfl, ?_⟩) (by assumption) ?_
          rotate_left
          focus (intro w hSw; (try dsimp only at hSw); go_simp; first | done | with_reducible rfl)
          try simp only [Act.put, List.setIfInBounds_toArray, List.set_cons_zero, List.set_cons_succ]
          refine wpAnyH_done (by kernel_rfl) ?_ _
          have HQ := Lib.hid (HB.out.trans (hHeld.1.out.mono hzr))
          clear hHeld
          go_wp2
          go_ret
          exact ⟨ret_bool (zip_no9 HX.out HFX.out HF.out).symm, HQ.out⟩
        · have HF := Lib.hid hf
          rw [hf] at HC
          clear hf
          go_wp2
          refine wp_region_held_drew (S := (fun w' => RowKit.Hid (Below wr.heap.size wr w') ∧ w'.cell? ⟨g, k, none⟩ = some (.func (.func 28) #[] #[]) ∧ w'.cell? ⟨wr.heap.size, 0, none⟩ = some (.int .i64 k1') ∧ w'.cell? ⟨wr.heap.size, 1, none⟩ = some (.string p1') ∧ w'.cell? ⟨wr.heap.size, 2, none⟩ = some (.string n1') ∧ w'.cell? ⟨wr.heap.size, 3, none⟩ = some (.int .i64 N1') ∧ w'.cell? ⟨wr.heap.size, 4, none⟩ = some (.slice q3 l3 c3))) (by kernel_rfl) (by exact ⟨Lib.hid (below_drewN (below_alloc wr _) 1), keep_cell (below_drewN (below_alloc wr (.cells #[.int .i64 k1', .string p1', .string n1', .int .i64 N1', .slice q3 l3 c3] 24)) 1) m0, hb_at K0.out 0 rfl, hb_at K0.out 1 rfl, hb_at K0.out 2 rfl, hb_at K0.out 3 rfl, hb_at K0.out 4 rfl⟩) (fun hHeld => ?_)
          refine wpAnyH_take (i := 0) (oi := ⟨some 19, _, _, _, _, _⟩) (v := ?_) rfl (by kernel_rfl) (by kernel_rfl) (by kernel_rfl) (fun _ _ _ h => h) (Or.inl ⟨by rfl, ?_⟩) (by assumption) ?_
          rotate_left
          focus (intro w hSw; (try dsimp only at hSw); go_simp; first | done | with_reducible rfl)
          try simp only [Act.put, List.setIfInBounds_toArray, List.set_cons_zero, List.set_cons_succ]
          refine wpAnyH_take (i := 1) (oi := ⟨some 20, _, _, _, _, _⟩) (v := ?_) rfl (by kernel_rfl) (by kernel_rfl) (by kernel_rfl) (fun _ _ _ h => h) (Or.inl ⟨by rfl, ?_⟩) (by assumption) ?_
          rotate_left
          focus (intro w hSw; (try dsimp only at hSw); go_simp; first | done | with_reducible rfl)
          try simp only [Act.put, List.setIfInBounds_toArray, List.set_cons_zero, List.set_cons_succ]
          refine wpAnyH_take (i := 2) (oi := ⟨some 21, _, _, _, _, _⟩) (v := ?_) rfl (by kernel_rfl) (by kernel_rfl) (by kernel_rfl) (fun _ _ _ h => h) (Or.inl ⟨by rfl, ?_⟩) (by assumption) ?_
          rotate_left
          focus (intro w hSw; (try dsimp only at hSw); go_simp; first | done | with_reducible rfl)
          try simp only [Act.put, List.setIfInBounds_toArray, List.set_cons_zero, List.set_cons_succ]
          refine wpAnyH_take (i := 3) (oi := ⟨some 22, _, _, _, _, _⟩) (v := ?_) rfl (by kernel_rfl) (by kernel_rfl) (by kernel_rfl) (fun _ _ _ h => h) (Or.inl ⟨by rfl, ?_⟩) (by assumption) ?_
          rotate_left
          focus (intro w hSw; (try dsimp only at hSw); go_simp; first | done | with_reducible rfl)
          try simp only [Act.put, List.setIfInBounds_toArray, List.set_cons_zero, List.set_cons_succ]
          refine wpAnyH_take (i := 4) (oi := ⟨some 23, _, _, _, _, _⟩) (v := ?_) rfl (by kernel_rfl) (by kernel_rfl) (by kernel_rfl) (fun _ _ _ h => h) (Or.inl ⟨by rfl, ?_⟩) (by assumption) ?_
          rotate_left
          focus (intro w hSw; (try dsimp only at hSw); go_simp; first | done | with_reducible rfl)
          try simp only [Act.put, List.setIfInBounds_toArray, List.set_cons_zero, List.set_cons_succ]
          refine wpAnyH_ready (rs := [5]) (by kernel_rfl) (by simp) ?_
          refine AllReadyH.cons (o := ⟨some 24, _, _, _, _, _⟩) rfl (fun K hK => ?_) AllReadyH.nil
          go_simp
          ((with_reducible refine (HC.out _ hHeld.1.out).mono ?_); rintro e w3 ⟨rfl, hb⟩)
          go_wp2_with fail
          refine hK.out _ _ (by exact ⟨Lib.hid (hHeld.1.out.trans (hb.mono hHeld.1.out.size)), keep_cell hb hHeld.2.1, keep_cell hb hHeld.2.2.1, keep_cell hb hHeld.2.2.2.1, keep_cell hb hHeld.2.2.2.2.1, keep_cell hb hHeld.2.2.2.2.2.1, keep_cell hb hHeld.2.2.2.2.2.2⟩) (fun hNew => ?_)
          clear hK K
          clear hHeld hb; have hHeld := hNew; clear hNew
          try simp only [Act.put, List.setIfInBounds_toArray, List.set_cons_zero, List.set_cons_succ]
          refine wpAnyH_take (i := 6) (oi := ⟨some 25, _, _, _, _, _⟩) (v := ?_) rfl (by kernel_rfl) (by kernel_rfl) (by kernel_rfl) (fun _ _ _ h => h) (Or.inl ⟨by rfl, ?_⟩) (by assumption) ?_
          rotate_left
          focus (intro w hSw; (try dsimp only at hSw); go_simp; first | done | with_reducible rfl)
          try simp only [Act.put, List.setIfInBounds_toArray, List.set_cons_zero, List.set_cons_succ]
          refine wpAnyH_done (by kernel_rfl) ?_ _
          have HQ := Lib.hid (HB.out.trans (hHeld.1.out.mono hzr))
          clear hHeld
          go_wp2
          go_roundw
          case rel => exact ⟨k + 1, by omega, by go_num, zip_next HX.out HFX.out HP.out (by simpa [byF] using HF.out), HQ.out⟩
          case measure => simp [intOf]; omega
      · have m0 : wr.cell? ⟨g, k, none⟩ = some (.func (.func 34) #[] #[]) := (hB.cell (p := ⟨g, k, none⟩) hgw).trans (HG.out k _ hfk)
        have HC : RowKit.Hid (∀ W, Below wr.heap.size wr W → Calls Tryz.prog 34 #[tv k1' p1' n1' N1' (.slice q3 l3 c3)] W (Ans (f13 x) W)) :=
          Lib.hid fun W hW => H13.out (List.mem_of_getElem? hfk) _ x W ((ht1.below hB).below hW) (HGD.out x hxm) ((HW.out.below hB).below hW)
        have HFX : RowKit.Hid (fs[k]? = some 34) := Lib.hid hfk
        clear hx1 ht1 ha1 hB hxm hfk k0
        cases hf : f13 x
        · have HF := Lib.hid hf
          rw [hf] at HC
          clear hf
          go_wp2
          refine wp_region_held_drew (S := (fun w' => RowKit.Hid (Below wr.heap.size wr w') ∧ w'.cell? ⟨g, k, none⟩ = some (.func (.func 34) #[] #[]) ∧ w'.cell? ⟨wr.heap.size, 0, none⟩ = some (.int .i64 k1') ∧ w'.cell? ⟨wr.heap.size, 1, none⟩ = some (.string p1') ∧ w'.cell? ⟨wr.heap.size, 2, none⟩ = some (.string n1') ∧ w'.cell? ⟨wr.heap.size, 3, none⟩ = some (.int .i64 N1') ∧ w'.cell? ⟨wr.heap.size, 4, none⟩ = some (.slice q3 l3 c3))) (by kernel_rfl) (by exact ⟨Lib.hid (below_drewN (below_alloc wr _) 1), keep_cell (below_drewN (below_alloc wr (.cells #[.int .i64 k1', .string p1', .string n1', .int .i64 N1', .slice q3 l3 c3] 24)) 1) m0, hb_at K0.out 0 rfl, hb_at K0.out 1 rfl, hb_at K0.out 2 rfl, hb_at K0.out 3 rfl, hb_at K0.out 4 rfl⟩) (fun hHeld => ?_)
          refine wpAnyH_take (i := 0) (oi := ⟨some 19, _, _, _, _, _⟩) (v := ?_) rfl (by kernel_rfl) (by kernel_rfl) (by kernel_rfl) (fun _ _ _ h => h) (Or.inl ⟨by rfl, ?_⟩) (by assumption) ?_
          rotate_left
          focus (intro w hSw; (try dsimp only at hSw); go_simp; first | done | with_reducible rfl)
          try simp only [Act.put, List.setIfInBounds_toArray, List.set_cons_zero, List.set_cons_succ]
          refine wpAnyH_take (i := 1) (oi := ⟨some 20, _, _, _, _, _⟩) (v := ?_) rfl (by kernel_rfl) (by kernel_rfl) (by kernel_rfl) (fun _ _ _ h => h) (Or.inl ⟨by rfl, ?_⟩) (by assumption) ?_
          rotate_left
          focus (intro w hSw; (try dsimp only at hSw); go_simp; first | done | with_reducible rfl)
          try simp only [Act.put, List.setIfInBounds_toArray, List.set_cons_zero, List.set_cons_succ]
          refine wpAnyH_take (i := 2) (oi := ⟨some 21, _, _, _, _, _⟩) (v := ?_) rfl (by kernel_rfl) (by kernel_rfl) (by kernel_rfl) (fun _ _ _ h => h) (Or.inl ⟨by rfl, ?_⟩) (by assumption) ?_
          rotate_left
          focus (intro w hSw; (try dsimp only at hSw); go_simp; first | done | with_reducible rfl)
          try simp only [Act.put, List.setIfInBounds_toArray, List.set_cons_zero, List.set_cons_succ]
          refine wpAnyH_take (i := 3) (oi := ⟨some 22, _, _, _, _, _⟩) (v := ?_) rfl (by kernel_rfl) (by kernel_rfl) (by kernel_rfl) (fun _ _ _ h => h) (Or.inl ⟨by rfl, ?_⟩) (by assumption) ?_
          rotate_left
          focus (intro w hSw; (try dsimp only at hSw); go_simp; first | done | with_reducible rfl)
          try simp only [Act.put, List.setIfInBounds_toArray, List.set_cons_zero, List.set_cons_succ]
          refine wpAnyH_take (i := 4) (oi := ⟨some 23, _, _, _, _, _⟩) (v := ?_) rfl (by kernel_rfl) (by kernel_rfl) (by kernel_rfl) (fun _ _ _ h => h) (Or.inl ⟨by rfl, ?_⟩) (by assumption) ?_
          rotate_left
          focus (intro w hSw; (try dsimp only at hSw); go_simp; first | done | with_reducible rfl)
          try simp only [Act.put, List.setIfInBounds_toArray, List.set_cons_zero, List.set_cons_succ]
          refine wpAnyH_ready (rs := [5]) (by kernel_rfl) (by simp) ?_
          refine AllReadyH.cons (o := ⟨some 24, _, _, _, _, _⟩) rfl (fun K hK => ?_) AllReadyH.nil
          go_simp
          ((with_reducible refine (HC.out _ hHeld.1.out).mono ?_); rintro e w3 ⟨rfl, hb⟩)
          go_wp2_with fail
          refine hK.out _ _ (by exact ⟨Lib.hid (hHeld.1.out.trans (hb.mono hHeld.1.out.size)), keep_cell hb hHeld.2.1, keep_cell hb hHeld.2.2.1, keep_cell hb hHeld.2.2.2.1, keep_cell hb hHeld.2.2.2.2.1, keep_cell hb hHeld.2.2.2.2.2.1, keep_cell hb hHeld.2.2.2.2.2.2⟩) (fun hNew => ?_)
          clear hK K
          clear hHeld hb; have hHeld := hNew; clear hNew
          try simp only [Act.put, List.setIfInBounds_toArray, List.set_cons_zero, List.set_cons_succ]
          refine wpAnyH_take (i := 6) (oi := ⟨some 25, _, _, _, _, _⟩) (v := ?_) rfl (by kernel_rfl) (by kernel_rfl) (by kernel_rfl) (fun _ _ _ h => h) (Or.inl ⟨by rfl, ?_⟩) (by assumption) ?_
          rotate_left
          focus (intro w hSw; (try dsimp only at hSw); go_simp; first | done | with_reducible rfl)
          try simp only [Act.put, List.setIfInBounds_toArray, List.set_cons_zero, List.set_cons_succ]
          refine wpAnyH_done (by kernel_rfl) ?_ _
          have HQ := Lib.hid (HB.out.trans (hHeld.1.out.mono hzr))
          clear hHeld
          go_wp2
          go_ret
          exact ⟨ret_bool (zip_no13 HX.out HFX.out HF.out).symm, HQ.out⟩
        · have HF := Lib.hid hf
          rw [hf] at HC
          clear hf
          go_wp2
          refine wp_region_held_drew (S := (fun w' => RowKit.Hid (Below wr.heap.size wr w') ∧ w'.cell? ⟨g, k, none⟩ = some (.func (.func 34) #[] #[]) ∧ w'.cell? ⟨wr.heap.size, 0, none⟩ = some (.int .i64 k1') ∧ w'.cell? ⟨wr.heap.size, 1, none⟩ = some (.string p1') ∧ w'.cell? ⟨wr.heap.size, 2, none⟩ = some (.string n1') ∧ w'.cell? ⟨wr.heap.size, 3, none⟩ = some (.int .i64 N1') ∧ w'.cell? ⟨wr.heap.size, 4, none⟩ = some (.slice q3 l3 c3))) (by kernel_rfl) (by exact ⟨Lib.hid (below_drewN (below_alloc wr _) 1), keep_cell (below_drewN (below_alloc wr (.cells #[.int .i64 k1', .string p1', .string n1', .int .i64 N1', .slice q3 l3 c3] 24)) 1) m0, hb_at K0.out 0 rfl, hb_at K0.out 1 rfl, hb_at K0.out 2 rfl, hb_at K0.out 3 rfl, hb_at K0.out 4 rfl⟩) (fun hHeld => ?_)
          refine wpAnyH_take (i := 0) (oi := ⟨some 19, _, _, _, _, _⟩) (v := ?_) rfl (by kernel_rfl) (by kernel_rfl) (by kernel_rfl) (fun _ _ _ h => h) (Or.inl ⟨by rfl, ?_⟩) (by assumption) ?_
          rotate_left
          focus (intro w hSw; (try dsimp only at hSw); go_simp; first | done | with_reducible rfl)
          try simp only [Act.put, List.setIfInBounds_toArray, List.set_cons_zero, List.set_cons_succ]
          refine wpAnyH_take (i := 1) (oi := ⟨some 20, _, _, _, _, _⟩) (v := ?_) rfl (by kernel_rfl) (by kernel_rfl) (by kernel_rfl) (fun _ _ _ h => h) (Or.inl ⟨by rfl, ?_⟩) (by assumption) ?_
          rotate_left
          focus (intro w hSw; (try dsimp only at hSw); go_simp; first | done | with_reducible rfl)
          try simp only [Act.put, List.setIfInBounds_toArray, List.set_cons_zero, List.set_cons_succ]
          refine wpAnyH_take (i := 2) (oi := ⟨some 21, _, _, _, _, _⟩) (v := ?_) rfl (by kernel_rfl) (by kernel_rfl) (by kernel_rfl) (fun _ _ _ h => h) (Or.inl ⟨by rfl, ?_⟩) (by assumption) ?_
          rotate_left
          focus (intro w hSw; (try dsimp only at hSw); go_simp; first | done | with_reducible rfl)
          try simp only [Act.put, List.setIfInBounds_toArray, List.set_cons_zero, List.set_cons_succ]
          refine wpAnyH_take (i := 3) (oi := ⟨some 22, _, _, _, _, _⟩) (v := ?_) rfl (by kernel_rfl) (by kernel_rfl) (by kernel_rfl) (fun _ _ _ h => h) (Or.inl ⟨by rfl, ?_⟩) (by assumption) ?_
          rotate_left
          focus (intro w hSw; (try dsimp only at hSw); go_simp; first | done | with_reducible rfl)
          try simp only [Act.put, List.setIfInBounds_toArray, List.set_cons_zero, List.set_cons_succ]
          refine wpAnyH_take (i := 4) (oi := ⟨some 23, _, _, _, _, _⟩) (v := ?_) rfl (by kernel_rfl) (by kernel_rfl) (by kernel_rfl) (fun _ _ _ h => h) (Or.inl ⟨by rfl, ?_⟩) (by assumption) ?_
          rotate_left
          focus (intro w hSw; (try dsimp only at hSw); go_simp; first | done | with_reducible rfl)
          try simp only [Act.put, List.setIfInBounds_toArray, List.set_cons_zero, List.set_cons_succ]
          refine wpAnyH_ready (rs := [5]) (by kernel_rfl) (by simp) ?_
          refine AllReadyH.cons (o := ⟨some 24, _, _, _, _, _⟩) rfl (fun K hK => ?_) AllReadyH.nil
          go_simp
          ((with_reducible refine (HC.out _ hHeld.1.out).mono ?_); rintro e w3 ⟨rfl, hb⟩)
          go_wp2_with fail
          refine hK.out _ _ (by exact ⟨Lib.hid (hHeld.1.out.trans (hb.mono hHeld.1.out.size)), keep_cell hb hHeld.2.1, keep_cell hb hHeld.2.2.1, keep_cell hb hHeld.2.2.2.1, keep_cell hb hHeld.2.2.2.2.1, keep_cell hb hHeld.2.2.2.2.2.1, keep_cell hb hHeld.2.2.2.2.2.2⟩) (fun hNew => ?_)
          clear hK K
          clear hHeld hb; have hHeld := hNew; clear hNew
          try simp only [Act.put, List.setIfInBounds_toArray, List.set_cons_zero, List.set_cons_succ]
          refine wpAnyH_take (i := 6) (oi := ⟨some 25, _, _, _, _, _⟩) (v := ?_) rfl (by kernel_rfl) (by kernel_rfl) (by kernel_rfl) (fun _ _ _ h => h) (Or.inl ⟨by rfl, ?_⟩) (by assumption) ?_
          rotate_left
          focus (intro w hSw; (try dsimp only at hSw); go_simp; first | done | with_reducible rfl)
          try simp only [Act.put, List.setIfInBounds_toArray, List.set_cons_zero, List.set_cons_succ]
          refine wpAnyH_done (by kernel_rfl) ?_ _
          have HQ := Lib.hid (HB.out.trans (hHeld.1.out.mono hzr))
          clear hHeld
          go_wp2
          go_roundw
          case rel => exact ⟨k + 1, by omega, by go_num, zip_next HX.out HFX.out HP.out (by simpa [byF] using HF.out), HQ.out⟩
          case measure => simp [intOf]; omega
    · obtain rfl : k = kids.length := by omega
      go_wp2
      go_ret
      exact ⟨ret_bool (zip_yes HLE.out.symm (fun j K x hx hf => HP.out j K x (by have := (List.getElem?_eq_some_iff.1 hx).1; omega) hx hf)).symm, HB.out⟩
def Yes (w : World) (e : Ending) (w' : World) : Prop := e = .returned (.bool true) ∧ Below w.heap.size w w'
theorem isOf_nil (q : Option Addr) (c : Nat) (w : World) : Calls Tryz.prog 77 #[.slice q 0 c, .slice none 0 0] w (Yes w) := by
  go_enter Tryz.func77, Tryz.ntmps77
  go_wp2
  go_loopw [14] (fun i wr => i = .int .i64 0 ∧ wr = w) (fun _ _ => 0)
  case atStart => exact ⟨rfl, rfl⟩
  case round =>
    obtain ⟨rfl, rfl⟩ := hrel
    go_wp2
    go_ret
    exact ⟨rfl, Below.refl _ _⟩
end Go.Proofs.YtmkjalnlldpdcaaGreatDoor
/- Is it a tuple? Of no Kids? Functions in a row. -/
namespace Go.Proofs.YtmkjalnlldpdcaaGreatDoor
open Go.RowKit
set_option linter.unusedSimpArgs false
set_option linter.unusedVariables false
theorem isOfNil_any (q : Option Addr) (l c : Nat) (hm : l ≤ 9223372036854775807) (w : World) : Calls Tryz.prog 77 #[.slice q l c, .slice none 0 0] w (Ans (l == 0) w) := by
  by_cases h : l = 0
  · subst h
    exact (isOf_nil q c w).mono fun e w' he => he
  · have hl : ((l : Int) != 0) = true := by simp; omega
    have hb : (l == 0) = false := by simpa using h
    rw [hb]
    clear h hb
    go_enter Tryz.func77, Tryz.ntmps77
    go_wp2
    go_ret
    exact ⟨rfl, Below.refl _ _⟩
theorem one_fun (W : World) (K1 : Nat) (t : TypeId) : ∀ j K, [K1][j]? = some K → (W.alloc (.cells #[.func (.func K1) #[] #[]] t)).cell? ⟨W.heap.size, j, none⟩ = some (.func (.func K) #[] #[]) := by
  intro j K h
  match j, h with
  | 0, h => cases h; exact hb_at (hb_new W _) 0 rfl
theorem two_funs (W : World) (K1 K2 : Nat) (t : TypeId) : ∀ j K, [K1, K2][j]? = some K → (W.alloc (.cells #[.func (.func K1) #[] #[], .func (.func K2) #[] #[]] t)).cell? ⟨W.heap.size, j, none⟩ = some (.func (.func K) #[] #[]) := by
  intro j K h
  match j, h with
  | 0, h => cases h; exact hb_at (hb_new W _) 0 rfl
  | 1, h => cases h; exact hb_at (hb_new W _) 1 rfl
theorem three_funs (W : World) (K1 K2 K3 : Nat) (t : TypeId) : ∀ j K, [K1, K2, K3][j]? = some K → (W.alloc (.cells #[.func (.func K1) #[] #[], .func (.func K2) #[] #[], .func (.func K3) #[] #[]] t)).cell? ⟨W.heap.size, j, none⟩ = some (.func (.func K) #[] #[]) := by
  intro j K h
  match j, h with
  | 0, h => cases h; exact hb_at (hb_new W _) 0 rfl
  | 1, h => cases h; exact hb_at (hb_new W _) 1 rfl
  | 2, h => cases h; exact hb_at (hb_new W _) 2 rfl
def tupB (f : Tm → Bool) (p n : ByteArray) (N : Int) (kids : List Tm) : Bool := bareB p n N && ((kids.length != 1) && kids.all f)
set_option maxRecDepth 100000 in
set_option maxHeartbeats 2000000 in
theorem isTuple_any9 (f : Tm → Bool) (d : Nat) (k : Int) (p n : ByteArray) (N : Int) (q : Option Addr) (c : Nat) (kids : List Tm) (h : Judge 28 f d) (hG : ∀ x ∈ kids, Gd d x) (w : World) (hw : LxW w) (hk : KidsT w d (.slice q kids.length c) kids) :
    Calls Tryz.prog 81 #[tv k p n N (.slice q kids.length c), .func (.func 28) #[] #[]] w (Ans (tupB f p n N kids) w) := by
  unfold tupB
  have HB33 := Lib.hid (fun W => bare_any k p n N q kids.length c W)
  have HA := Lib.hid (fun W hW hk => areAll_any9 f d kids h hG (.slice q kids.length c) W hW hk)
  have hnew := hb_new w (.cells #[.int .i64 k, .string p, .string n, .int .i64 N, .slice q kids.length c] 24)
  have K0 := Lib.hid hnew
  have LX0 := Lib.hid (fun o => hw.under rfl (below_alloc w o))
  have HK0 := Lib.hid (hk.below (below_alloc w (.cells #[.int .i64 k, .string p, .string n, .int .i64 N, .slice q kids.length c] 24)))
  have hL : ((kids.length : Int) != 1) = (kids.length != 1) := by
    rw [Bool.eq_iff_iff]; simp; omega
  generalize bareB p n N = b1 at *
  generalize kids.all f = b3 at *
  generalize (kids.length != 1) = b2 at *
  clear hw hk h hG hnew
  cases b1
  · go_enter Tryz.func81, Tryz.ntmps81
    go_wp2_with (go_at_call 80; ((with_reducible refine (HB33.out _).mono ?_); rintro e w1 ⟨rfl, hb⟩; have HBB1 := Lib.hid ((below_alloc w (.cells #[.int .i64 k, .string p, .string n, .int .i64 N, .slice q kids.length c] 24)).trans (hb.mono (by simp))); have kk1 := hb_below K0.out hb (by simp); have LX1 := Lib.hid ((LX0.out _).under rfl hb); have HK1 := Lib.hid (HK0.out.below hb); have K1 := Lib.hid kk1; have r1_0 := hb_at kk1 0 rfl; have r1_1 := hb_at kk1 1 rfl; have r1_2 := hb_at kk1 2 rfl; have r1_3 := hb_at kk1 3 rfl; have r1_4 := hb_at kk1 4 rfl; clear hb kk1))
    go_ret
    exact ⟨rfl, HBB1.out⟩
  · skip
    cases b2
    · go_enter Tryz.func81, Tryz.ntmps81
      go_wp2_with (go_at_call 80; ((with_reducible refine (HB33.out _).mono ?_); rintro e w1 ⟨rfl, hb⟩; have HBB1 := Lib.hid ((below_alloc w (.cells #[.int .i64 k, .string p, .string n, .int .i64 N, .slice q kids.length c] 24)).trans (hb.mono (by simp))); have kk1 := hb_below K0.out hb (by simp); have LX1 := Lib.hid ((LX0.out _).under rfl hb); have HK1 := Lib.hid (HK0.out.below hb); have K1 := Lib.hid kk1; have r1_0 := hb_at kk1 0 rfl; have r1_1 := hb_at kk1 1 rfl; have r1_2 := hb_at kk1 2 rfl; have r1_3 := hb_at kk1 3 rfl; have r1_4 := hb_at kk1 4 rfl; clear hb kk1))
      go_ret
      exact ⟨rfl, HBB1.out⟩
    · skip
      go_enter Tryz.func81, Tryz.ntmps81
      go_wp2_with (first
        | (go_at_call 80; ((with_reducible refine (HB33.out _).mono ?_); rintro e w1 ⟨rfl, hb⟩; have HBB1 := Lib.hid ((below_alloc w (.cells #[.int .i64 k, .string p, .string n, .int .i64 N, .slice q kids.length c] 24)).trans (hb.mono (by simp))); have kk1 := hb_below K0.out hb (by simp); have LX1 := Lib.hid ((LX0.out _).under rfl hb); have HK1 := Lib.hid (HK0.out.below hb); have K1 := Lib.hid kk1; have r1_0 := hb_at kk1 0 rfl; have r1_1 := hb_at kk1 1 rfl; have r1_2 := hb_at kk1 2 rfl; have r1_3 := hb_at kk1 3 rfl; have r1_4 := hb_at kk1 4 rfl; clear hb kk1))
        | (go_at_call 79; ((with_reducible refine (HA.out _ LX1.out HK1.out).mono ?_); rintro e w2 ⟨rfl, hb⟩; have HBB2 := Lib.hid (HBB1.out.trans (hb.mono HBB1.out.size)); have kk2 := hb_below K1.out hb (hb_lt K1.out); have LX2 := Lib.hid (LX1.out.under rfl hb); have HK2 := Lib.hid (HK1.out.below hb); have K2 := Lib.hid kk2; have r2_0 := hb_at kk2 0 rfl; have r2_1 := hb_at kk2 1 rfl; have r2_2 := hb_at kk2 2 rfl; have r2_3 := hb_at kk2 3 rfl; have r2_4 := hb_at kk2 4 rfl; clear hb kk2)))
      go_ret
      exact ⟨rfl, HBB2.out⟩
set_option maxRecDepth 100000 in
set_option maxHeartbeats 2000000 in
theorem isTuple_any11 (f : Tm → Bool) (d : Nat) (k : Int) (p n : ByteArray) (N : Int) (q : Option Addr) (c : Nat) (kids : List Tm) (h : Judge 31 f d) (hG : ∀ x ∈ kids, Gd d x) (w : World) (hw : LxW w) (hk : KidsT w d (.slice q kids.length c) kids) :
    Calls Tryz.prog 81 #[tv k p n N (.slice q kids.length c), .func (.func 31) #[] #[]] w (Ans (tupB f p n N kids) w) := by
  unfold tupB
  have HB33 := Lib.hid (fun W => bare_any k p n N q kids.length c W)
  have HA := Lib.hid (fun W hW hk => areAll_any11 f d kids h hG (.slice q kids.length c) W hW hk)
  have hnew := hb_new w (.cells #[.int .i64 k, .string p, .string n, .int .i64 N, .slice q kids.length c] 24)
  have K0 := Lib.hid hnew
  have LX0 := Lib.hid (fun o => hw.under rfl (below_alloc w o))
  have HK0 := Lib.hid (hk.below (below_alloc w (.cells #[.int .i64 k, .string p, .string n, .int .i64 N, .slice q kids.length c] 24)))
  have hL : ((kids.length : Int) != 1) = (kids.length != 1) := by
    rw [Bool.eq_iff_iff]; simp; omega
  generalize bareB p n N = b1 at *
  generalize kids.all f = b3 at *
  generalize (kids.length != 1) = b2 at *
  clear hw hk h hG hnew
  cases b1
  · go_enter Tryz.func81, Tryz.ntmps81
    go_wp2_with (go_at_call 80; ((with_reducible refine (HB33.out _).mono ?_); rintro e w1 ⟨rfl, hb⟩; have HBB1 := Lib.hid ((below_alloc w (.cells #[.int .i64 k, .string p, .string n, .int .i64 N, .slice q kids.length c] 24)).trans (hb.mono (by simp))); have kk1 := hb_below K0.out hb (by simp); have LX1 := Lib.hid ((LX0.out _).under rfl hb); have HK1 := Lib.hid (HK0.out.below hb); have K1 := Lib.hid kk1; have r1_0 := hb_at kk1 0 rfl; have r1_1 := hb_at kk1 1 rfl; have r1_2 := hb_at kk1 2 rfl; have r1_3 := hb_at kk1 3 rfl; have r1_4 := hb_at kk1 4 rfl; clear hb kk1))
    go_ret
    exact ⟨rfl, HBB1.out⟩
  · skip
    cases b2
    · go_enter Tryz.func81, Tryz.ntmps81
      go_wp2_with (go_at_call 80; ((with_reducible refine (HB33.out _).mono ?_); rintro e w1 ⟨rfl, hb⟩; have HBB1 := Lib.hid ((below_alloc w (.cells #[.int .i64 k, .string p, .string n, .int .i64 N, .slice q kids.length c] 24)).trans (hb.mono (by simp))); have kk1 := hb_below K0.out hb (by simp); have LX1 := Lib.hid ((LX0.out _).under rfl hb); have HK1 := Lib.hid (HK0.out.below hb); have K1 := Lib.hid kk1; have r1_0 := hb_at kk1 0 rfl; have r1_1 := hb_at kk1 1 rfl; have r1_2 := hb_at kk1 2 rfl; have r1_3 := hb_at kk1 3 rfl; have r1_4 := hb_at kk1 4 rfl; clear hb kk1))
      go_ret
      exact ⟨rfl, HBB1.out⟩
    · skip
      go_enter Tryz.func81, Tryz.ntmps81
      go_wp2_with (first
        | (go_at_call 80; ((with_reducible refine (HB33.out _).mono ?_); rintro e w1 ⟨rfl, hb⟩; have HBB1 := Lib.hid ((below_alloc w (.cells #[.int .i64 k, .string p, .string n, .int .i64 N, .slice q kids.length c] 24)).trans (hb.mono (by simp))); have kk1 := hb_below K0.out hb (by simp); have LX1 := Lib.hid ((LX0.out _).under rfl hb); have HK1 := Lib.hid (HK0.out.below hb); have K1 := Lib.hid kk1; have r1_0 := hb_at kk1 0 rfl; have r1_1 := hb_at kk1 1 rfl; have r1_2 := hb_at kk1 2 rfl; have r1_3 := hb_at kk1 3 rfl; have r1_4 := hb_at kk1 4 rfl; clear hb kk1))
        | (go_at_call 79; ((with_reducible refine (HA.out _ LX1.out HK1.out).mono ?_); rintro e w2 ⟨rfl, hb⟩; have HBB2 := Lib.hid (HBB1.out.trans (hb.mono HBB1.out.size)); have kk2 := hb_below K1.out hb (hb_lt K1.out); have LX2 := Lib.hid (LX1.out.under rfl hb); have HK2 := Lib.hid (HK1.out.below hb); have K2 := Lib.hid kk2; have r2_0 := hb_at kk2 0 rfl; have r2_1 := hb_at kk2 1 rfl; have r2_2 := hb_at kk2 2 rfl; have r2_3 := hb_at kk2 3 rfl; have r2_4 := hb_at kk2 4 rfl; clear hb kk2)))
      go_ret
      exact ⟨rfl, HBB2.out⟩
set_option maxRecDepth 100000 in
set_option maxHeartbeats 2000000 in
theorem isTuple_any13 (f : Tm → Bool) (d : Nat) (k : Int) (p n : ByteArray) (N : Int) (q : Option Addr) (c : Nat) (kids : List Tm) (h : Judge 34 f d) (hG : ∀ x ∈ kids, Gd d x) (w : World) (hw : LxW w) (hk : KidsT w d (.slice q kids.length c) kids) :
    Calls Tryz.prog 81 #[tv k p n N (.slice q kids.length c), .func (.func 34) #[] #[]] w (Ans (tupB f p n N kids) w) := by
  unfold tupB
  have HB33 := Lib.hid (fun W => bare_any k p n N q kids.length c W)
  have HA := Lib.hid (fun W hW hk => areAll_any13 f d kids h hG (.slice q kids.length c) W hW hk)
  have hnew := hb_new w (.cells #[.int .i64 k, .string p, .string n, .int .i64 N, .slice q kids.length c] 24)
  have K0 := Lib.hid hnew
  have LX0 := Lib.hid (fun o => hw.under rfl (below_alloc w o))
  have HK0 := Lib.hid (hk.below (below_alloc w (.cells #[.int .i64 k, .string p, .string n, .int .i64 N, .slice q kids.length c] 24)))
  have hL : ((kids.length : Int) != 1) = (kids.length != 1) := by
    rw [Bool.eq_iff_iff]; simp; omega
  generalize bareB p n N = b1 at *
  generalize kids.all f = b3 at *
  generalize (kids.length != 1) = b2 at *
  clear hw hk h hG hnew
  cases b1
  · go_enter Tryz.func81, Tryz.ntmps81
    go_wp2_with (go_at_call 80; ((with_reducible refine (HB33.out _).mono ?_); rintro e w1 ⟨rfl, hb⟩; have HBB1 := Lib.hid ((below_alloc w (.cells #[.int .i64 k, .string p, .string n, .int .i64 N, .slice q kids.length c] 24)).trans (hb.mono (by simp))); have kk1 := hb_below K0.out hb (by simp); have LX1 := Lib.hid ((LX0.out _).under rfl hb); have HK1 := Lib.hid (HK0.out.below hb); have K1 := Lib.hid kk1; have r1_0 := hb_at kk1 0 rfl; have r1_1 := hb_at kk1 1 rfl; have r1_2 := hb_at kk1 2 rfl; have r1_3 := hb_at kk1 3 rfl; have r1_4 := hb_at kk1 4 rfl; clear hb kk1))
    go_ret
    exact ⟨rfl, HBB1.out⟩
  · skip
    cases b2
    · go_enter Tryz.func81, Tryz.ntmps81
      go_wp2_with (go_at_call 80; ((with_reducible refine (HB33.out _).mono ?_); rintro e w1 ⟨rfl, hb⟩; have HBB1 := Lib.hid ((below_alloc w (.cells #[.int .i64 k, .string p, .string n, .int .i64 N, .slice q kids.length c] 24)).trans (hb.mono (by simp))); have kk1 := hb_below K0.out hb (by simp); have LX1 := Lib.hid ((LX0.out _).under rfl hb); have HK1 := Lib.hid (HK0.out.below hb); have K1 := Lib.hid kk1; have r1_0 := hb_at kk1 0 rfl; have r1_1 := hb_at kk1 1 rfl; have r1_2 := hb_at kk1 2 rfl; have r1_3 := hb_at kk1 3 rfl; have r1_4 := hb_at kk1 4 rfl; clear hb kk1))
      go_ret
      exact ⟨rfl, HBB1.out⟩
    · skip
      go_enter Tryz.func81, Tryz.ntmps81
      go_wp2_with (first
        | (go_at_call 80; ((with_reducible refine (HB33.out _).mono ?_); rintro e w1 ⟨rfl, hb⟩; have HBB1 := Lib.hid ((below_alloc w (.cells #[.int .i64 k, .string p, .string n, .int .i64 N, .slice q kids.length c] 24)).trans (hb.mono (by simp))); have kk1 := hb_below K0.out hb (by simp); have LX1 := Lib.hid ((LX0.out _).under rfl hb); have HK1 := Lib.hid (HK0.out.below hb); have K1 := Lib.hid kk1; have r1_0 := hb_at kk1 0 rfl; have r1_1 := hb_at kk1 1 rfl; have r1_2 := hb_at kk1 2 rfl; have r1_3 := hb_at kk1 3 rfl; have r1_4 := hb_at kk1 4 rfl; clear hb kk1))
        | (go_at_call 79; ((with_reducible refine (HA.out _ LX1.out HK1.out).mono ?_); rintro e w2 ⟨rfl, hb⟩; have HBB2 := Lib.hid (HBB1.out.trans (hb.mono HBB1.out.size)); have kk2 := hb_below K1.out hb (hb_lt K1.out); have LX2 := Lib.hid (LX1.out.under rfl hb); have HK2 := Lib.hid (HK1.out.below hb); have K2 := Lib.hid kk2; have r2_0 := hb_at kk2 0 rfl; have r2_1 := hb_at kk2 1 rfl; have r2_2 := hb_at kk2 2 rfl; have r2_3 := hb_at kk2 3 rfl; have r2_4 := hb_at kk2 4 rfl; clear hb kk2)))
      go_ret
      exact ⟨rfl, HBB2.out⟩
end Go.Proofs.YtmkjalnlldpdcaaGreatDoor
/- Is it a type? As the program judges, as the document does. -/
namespace Go.Proofs.YtmkjalnlldpdcaaGreatDoor
open Go.RowKit
set_option linter.unusedSimpArgs false
set_option linter.unusedVariables false
noncomputable def typeB : Nat → Tm → Bool
  | 0, _ => false
  | d + 1, .mk k p n N kids =>
    if k = 1 then namedB 3 p n N && (kids.length == 0)
    else if k = 2 then qualB 1 p n N && kids.all (typeB d)
    else if k = 3 then bareB p n N && zipB (typeB d) (typeB d) [28, 28] kids
    else if k = 4 then tupB (typeB d) p n N kids
    else false
theorem zip_two {f : Tm → Bool} {kids : List Tm} : zipB f f [28, 28] kids = ((kids.length == 2) && kids.all f) := by
  match kids with
  | [] => rfl
  | [x] => simp [zipB]
  | [x, y] => simp [zipB, byF]
  | x :: y :: z :: r => simp [zipB]
set_option maxRecDepth 100000 in
set_option maxHeartbeats 8000000 in
theorem type_next (d : Nat) (hd : Judge 28 (typeB d) d) : Judge 28 (typeB (d + 1)) (d + 1) := by
  intro v x w hT hG hw
  obtain ⟨d1, k, p, n, N, s, kids, e1, rfl, rfl, _, _, hk⟩ := hT.open
  obtain rfl : d = d1 := by omega
  obtain ⟨q, c, rfl, hm, hr⟩ := hk
  have hk : KidsT w d (.slice q kids.length c) kids := ⟨q, c, rfl, hm, hr⟩
  obtain ⟨hp, hn, hN', hg⟩ := hG
  have hG : True := trivial
  unfold maxLen at hm
  clear hT e1 hr
  by_cases hk1 : k = 1
  · subst hk1
    rw [show typeB (d + 1) (.mk 1 p n N kids) = (namedB 3 p n N && ((kids.length == 0))) from by simp [typeB]]
    have Hb1 := Lib.hid (fun W hW => named_any 3 1 p n N (by omega) (by omega) q kids.length c W hW)
    have Hb2 := Lib.hid (fun W => isOfNil_any q kids.length c (by omega) W)
    have hnew := hb_new w (.cells #[.int .i64 1, .string p, .string n, .int .i64 N, .slice q kids.length c] 24)
    have K0 := Lib.hid hnew
    have LX0 := Lib.hid (fun o => hw.under rfl (below_alloc w o))
    have HK0 := Lib.hid (hk.below (below_alloc w (.cells #[.int .i64 1, .string p, .string n, .int .i64 N, .slice q kids.length c] 24)))
    generalize namedB 3 p n N = b1 at *
    generalize (kids.length == 0) = b2 at *
    clear hw hk hG hg hp hn hN' hd hnew
    cases b1
    · go_enter Tryz.func28, Tryz.ntmps28
      go_wp2_with (go_at_call 76; ((with_reducible refine (Hb1.out _ (LX0.out _)).mono ?_); rintro e w1 ⟨rfl, hb⟩; have HBB1 := Lib.hid ((below_alloc w (.cells #[.int .i64 1, .string p, .string n, .int .i64 N, .slice q kids.length c] 24)).trans (hb.mono (by simp))); have kk1 := hb_below K0.out hb (by simp); have LX1 := Lib.hid ((LX0.out _).under rfl hb); have HK1 := Lib.hid (HK0.out.below hb); have K1 := Lib.hid kk1; have r1_0 := hb_at kk1 0 rfl; have r1_1 := hb_at kk1 1 rfl; have r1_2 := hb_at kk1 2 rfl; have r1_3 := hb_at kk1 3 rfl; have r1_4 := hb_at kk1 4 rfl; clear hb kk1))
      go_ret
      exact ⟨rfl, HBB1.out⟩
    · skip
      go_enter Tryz.func28, Tryz.ntmps28
      go_wp2_with (first
        | (go_at_call 76; ((with_reducible refine (Hb1.out _ (LX0.out _)).mono ?_); rintro e w1 ⟨rfl, hb⟩; have HBB1 := Lib.hid ((below_alloc w (.cells #[.int .i64 1, .string p, .string n, .int .i64 N, .slice q kids.length c] 24)).trans (hb.mono (by simp))); have kk1 := hb_below K0.out hb (by simp); have LX1 := Lib.hid ((LX0.out _).under rfl hb); have HK1 := Lib.hid (HK0.out.below hb); have K1 := Lib.hid kk1; have r1_0 := hb_at kk1 0 rfl; have r1_1 := hb_at kk1 1 rfl; have r1_2 := hb_at kk1 2 rfl; have r1_3 := hb_at kk1 3 rfl; have r1_4 := hb_at kk1 4 rfl; clear hb kk1))
        | (go_at_call 77; ((with_reducible refine (Hb2.out _).mono ?_); rintro e w2 ⟨rfl, hb⟩; have HBB2 := Lib.hid (HBB1.out.trans (hb.mono HBB1.out.size)); have kk2 := hb_below K1.out hb (hb_lt K1.out); have LX2 := Lib.hid (LX1.out.under rfl hb); have HK2 := Lib.hid (HK1.out.below hb); have K2 := Lib.hid kk2; have r2_0 := hb_at kk2 0 rfl; have r2_1 := hb_at kk2 1 rfl; have r2_2 := hb_at kk2 2 rfl; have r2_3 := hb_at kk2 3 rfl; have r2_4 := hb_at kk2 4 rfl; clear hb kk2)))
      go_ret
      exact ⟨rfl, HBB2.out⟩
  have d1 : (k == 1) = false := by simpa using hk1
  by_cases hk2 : k = 2
  · subst hk2
    rw [show typeB (d + 1) (.mk 2 p n N kids) = (qualB 1 p n N && (kids.all (typeB d))) from by simp [typeB]]
    have Hb1 := Lib.hid (fun W hW => qualified_any 1 2 p n N (by omega) (by omega) q kids.length c W hW)
    have Hb2 := Lib.hid (fun W hW hk => areAll_any9 (typeB d) d kids hd hg (.slice q kids.length c) W hW hk)
    have hnew := hb_new w (.cells #[.int .i64 2, .string p, .string n, .int .i64 N, .slice q kids.length c] 24)
    have K0 := Lib.hid hnew
    have LX0 := Lib.hid (fun o => hw.under rfl (below_alloc w o))
    have HK0 := Lib.hid (hk.below (below_alloc w (.cells #[.int .i64 2, .string p, .string n, .int .i64 N, .slice q kids.length c] 24)))
    generalize qualB 1 p n N = b1 at *
    generalize kids.all (typeB d) = b2 at *
    clear hw hk hG hg hp hn hN' hd hnew
    cases b1
    · go_enter Tryz.func28, Tryz.ntmps28
      go_wp2_with (go_at_call 78; ((with_reducible refine (Hb1.out _ (LX0.out _)).mono ?_); rintro e w1 ⟨rfl, hb⟩; have HBB1 := Lib.hid ((below_alloc w (.cells #[.int .i64 2, .string p, .string n, .int .i64 N, .slice q kids.length c] 24)).trans (hb.mono (by simp))); have kk1 := hb_below K0.out hb (by simp); have LX1 := Lib.hid ((LX0.out _).under rfl hb); have HK1 := Lib.hid (HK0.out.below hb); have K1 := Lib.hid kk1; have r1_0 := hb_at kk1 0 rfl; have r1_1 := hb_at kk1 1 rfl; have r1_2 := hb_at kk1 2 rfl; have r1_3 := hb_at kk1 3 rfl; have r1_4 := hb_at kk1 4 rfl; clear hb kk1))
      go_ret
      exact ⟨rfl, HBB1.out⟩
    · skip
      go_enter Tryz.func28, Tryz.ntmps28
      go_wp2_with (first
        | (go_at_call 78; ((with_reducible refine (Hb1.out _ (LX0.out _)).mono ?_); rintro e w1 ⟨rfl, hb⟩; have HBB1 := Lib.hid ((below_alloc w (.cells #[.int .i64 2, .string p, .string n, .int .i64 N, .slice q kids.length c] 24)).trans (hb.mono (by simp))); have kk1 := hb_below K0.out hb (by simp); have LX1 := Lib.hid ((LX0.out _).under rfl hb); have HK1 := Lib.hid (HK0.out.below hb); have K1 := Lib.hid kk1; have r1_0 := hb_at kk1 0 rfl; have r1_1 := hb_at kk1 1 rfl; have r1_2 := hb_at kk1 2 rfl; have r1_3 := hb_at kk1 3 rfl; have r1_4 := hb_at kk1 4 rfl; clear hb kk1))
        | (go_at_call 79; ((with_reducible refine (Hb2.out _ LX1.out HK1.out).mono ?_); rintro e w2 ⟨rfl, hb⟩; have HBB2 := Lib.hid (HBB1.out.trans (hb.mono HBB1.out.size)); have kk2 := hb_below K1.out hb (hb_lt K1.out); have LX2 := Lib.hid (LX1.out.under rfl hb); have HK2 := Lib.hid (HK1.out.below hb); have K2 := Lib.hid kk2; have r2_0 := hb_at kk2 0 rfl; have r2_1 := hb_at kk2 1 rfl; have r2_2 := hb_at kk2 2 rfl; have r2_3 := hb_at kk2 3 rfl; have r2_4 := hb_at kk2 4 rfl; clear hb kk2)))
      go_ret
      exact ⟨rfl, HBB2.out⟩
  have d2 : (k == 2) = false := by simpa using hk2
  by_cases hk3 : k = 3
  · subst hk3
    rw [show typeB (d + 1) (.mk 3 p n N kids) = (bareB p n N && (zipB (typeB d) (typeB d) [28, 28] kids)) from by simp [typeB]]
    have Hb1 := Lib.hid (fun W => bare_any 3 p n N q kids.length c W)
    have Hb2 : RowKit.Hid (∀ g W, LxW W → KidsT W d (.slice q kids.length c) kids → (∀ j K, [28, 28][j]? = some K → W.cell? ⟨g, j, none⟩ = some (.func (.func K) #[] #[])) → g < W.heap.size → Calls Tryz.prog 77 #[.slice q kids.length c, .slice (some ⟨g, 0, none⟩) 2 2] W (Ans (zipB (typeB d) (typeB d) [28, 28] kids) W)) := Lib.hid (fun g W hW hk hgc hgl => isOf_any (typeB d) (typeB d) [28, 28] (by simp) (by decide) d kids (fun _ => hd) (fun h => by simp at h) hg (.slice q kids.length c) g W hW hk hgc hgl)
    have hnew := hb_new w (.cells #[.int .i64 3, .string p, .string n, .int .i64 N, .slice q kids.length c] 24)
    have K0 := Lib.hid hnew
    have LX0 := Lib.hid (fun o => hw.under rfl (below_alloc w o))
    have HK0 := Lib.hid (hk.below (below_alloc w (.cells #[.int .i64 3, .string p, .string n, .int .i64 N, .slice q kids.length c] 24)))
    generalize bareB p n N = b1 at *
    generalize zipB (typeB d) (typeB d) [28, 28] kids = b2 at *
    clear hw hk hG hg hp hn hN' hd hnew
    cases b1
    · go_enter Tryz.func28, Tryz.ntmps28
      go_wp2_with (go_at_call 80; ((with_reducible refine (Hb1.out _).mono ?_); rintro e w1 ⟨rfl, hb⟩; have HBB1 := Lib.hid ((below_alloc w (.cells #[.int .i64 3, .string p, .string n, .int .i64 N, .slice q kids.length c] 24)).trans (hb.mono (by simp))); have kk1 := hb_below K0.out hb (by simp); have LX1 := Lib.hid ((LX0.out _).under rfl hb); have HK1 := Lib.hid (HK0.out.below hb); have K1 := Lib.hid kk1; have r1_0 := hb_at kk1 0 rfl; have r1_1 := hb_at kk1 1 rfl; have r1_2 := hb_at kk1 2 rfl; have r1_3 := hb_at kk1 3 rfl; have r1_4 := hb_at kk1 4 rfl; clear hb kk1))
      go_ret
      exact ⟨rfl, HBB1.out⟩
    · skip
      go_enter Tryz.func28, Tryz.ntmps28
      go_wp2_with (first
        | (go_at_call 80; ((with_reducible refine (Hb1.out _).mono ?_); rintro e w1 ⟨rfl, hb⟩; have HBB1 := Lib.hid ((below_alloc w (.cells #[.int .i64 3, .string p, .string n, .int .i64 N, .slice q kids.length c] 24)).trans (hb.mono (by simp))); have kk1 := hb_below K0.out hb (by simp); have LX1 := Lib.hid ((LX0.out _).under rfl hb); have HK1 := Lib.hid (HK0.out.below hb); have K1 := Lib.hid kk1; have r1_0 := hb_at kk1 0 rfl; have r1_1 := hb_at kk1 1 rfl; have r1_2 := hb_at kk1 2 rfl; have r1_3 := hb_at kk1 3 rfl; have r1_4 := hb_at kk1 4 rfl; clear hb kk1))
        | (go_at_call 77; ((with_reducible refine (Hb2.out _ _ (LX1.out.under rfl (below_alloc _ _)) (HK1.out.below (below_alloc _ _)) (two_funs _ 28 28 _) (by simp)).mono ?_); rintro e w2 ⟨rfl, hb⟩; have HBB2 := Lib.hid ((HBB1.out.alloc HBB1.out.size _).trans (hb.mono (by have := HBB1.out.size; simp; omega))); clear hb)))
      go_ret
      exact ⟨rfl, HBB2.out⟩
  have d3 : (k == 3) = false := by simpa using hk3
  by_cases hk4 : k = 4
  · subst hk4
    rw [show typeB (d + 1) (.mk 4 p n N kids) = (tupB (typeB d) p n N kids) from by simp [typeB]]
    have Hb1 := Lib.hid (fun W hW hk => isTuple_any9 (typeB d) d 4 p n N q c kids hd hg W hW hk)
    have hnew := hb_new w (.cells #[.int .i64 4, .string p, .string n, .int .i64 N, .slice q kids.length c] 24)
    have K0 := Lib.hid hnew
    have LX0 := Lib.hid (fun o => hw.under rfl (below_alloc w o))
    have HK0 := Lib.hid (hk.below (below_alloc w (.cells #[.int .i64 4, .string p, .string n, .int .i64 N, .slice q kids.length c] 24)))
    generalize tupB (typeB d) p n N kids = b1 at *
    clear hw hk hG hg hp hn hN' hd hnew
    go_enter Tryz.func28, Tryz.ntmps28
    go_wp2_with (go_at_call 81; ((with_reducible refine (Hb1.out _ (LX0.out _) HK0.out).mono ?_); rintro e w1 ⟨rfl, hb⟩; have HBB1 := Lib.hid ((below_alloc w (.cells #[.int .i64 4, .string p, .string n, .int .i64 N, .slice q kids.length c] 24)).trans (hb.mono (by simp))); have kk1 := hb_below K0.out hb (by simp); have LX1 := Lib.hid ((LX0.out _).under rfl hb); have HK1 := Lib.hid (HK0.out.below hb); have K1 := Lib.hid kk1; have r1_0 := hb_at kk1 0 rfl; have r1_1 := hb_at kk1 1 rfl; have r1_2 := hb_at kk1 2 rfl; have r1_3 := hb_at kk1 3 rfl; have r1_4 := hb_at kk1 4 rfl; clear hb kk1))
    go_ret
    exact ⟨rfl, HBB1.out⟩
  have d4 : (k == 4) = false := by simpa using hk4
  rw [show typeB (d + 1) (.mk k p n N kids) = false from by simp only [typeB, if_neg hk1, if_neg hk2, if_neg hk3, if_neg hk4]]
  clear hw hk hG hg hp hn hN' hd
  go_enter Tryz.func28, Tryz.ntmps28
  go_wp2
  go_ret
  exact ⟨rfl, below_alloc w _⟩
theorem type_any (d : Nat) : Judge 28 (typeB d) d := by
  induction d with
  | zero => intro v x W h; cases h
  | succ d ih => exact type_next d ih
end Go.Proofs.YtmkjalnlldpdcaaGreatDoor
