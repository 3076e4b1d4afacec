/- The chapter's example terms are a type, an expression, no pattern. -/
import Derived.Test.YthcpmdgdbceeiaaGreatDoorT7
namespace Go.Proofs.YthcpmdgdbceeiaaGreatDoor
open Go.RowKit
def Holds (K d : Nat) (x : Tm) : Prop := ∀ (v : Value) (W : World), IsT W d v x → Calls Tryz.prog K #[v] W (Yes W)
theorem KidsT.slice {w : World} {d : Nat} {s : Value} {kids : List Tm} (h : KidsT w d s kids) : ∃ q l c, s = .slice q l c := by
  obtain ⟨q, c, rfl, _⟩ := h
  exact ⟨q, _, c, rfl⟩
theorem isOf_nil (q : Option Addr) (c : Nat) (w : World) : Calls Tryz.prog 30 #[.slice q 0 c, .slice none 0 0] w (Yes w) := by
  go_enter Tryz.func30, Tryz.ntmps30
  go_wp2
  go_loopw [14] (fun i wr => i = .int .i64 0 ∧ wr = w) (fun _ _ => 0)
  case atStart => exact ⟨rfl, rfl⟩
  case round =>
    obtain ⟨rfl, rfl⟩ := hrel
    go_wp2
    go_ret
    exact ⟨rfl, Below.refl _ _⟩
set_option maxRecDepth 100000 in
theorem type_var (d : Nat) (n : ByteArray) (h : TokenOk 3 n) : Holds 9 d (.mk 1 ⟨#[]⟩ n 0 []) := by
  intro v w hT
  obtain ⟨d1, k, p, n', N, s, l, e1, e2, rfl, _, _, hk⟩ := hT.open
  cases e2
  obtain ⟨q, c, rfl, _, _⟩ := hk
  have HN := Lib.hid (fun W => named_ok 3 1 n (.slice q 0 c) h ⟨q, 0, c, rfl⟩ W)
  have HI := Lib.hid (fun W => isOf_nil q c W)
  clear hT h
  go_enter Tryz.func9, Tryz.ntmps9
  go_wp2_with (first
    | (go_at_call 29; ((with_reducible refine (HN.out _).mono ?_); rintro e w1 ⟨rfl, hb⟩; have HB1 := Lib.hid hb; obtain ⟨hc, hf⟩ := bcell hb; have z1 := hb.size; rw [World.size_alloc] at z1; have y1 : w.heap.size < w1.heap.size := (by omega)))
    | (go_at_call 30; ((with_reducible refine (HI.out _).mono ?_); rintro e w2 ⟨rfl, hb2⟩)))
  go_ret
  have hB1 := (below_alloc w (.cells #[.int .i64 1, .string ⟨#[]⟩, .string n, .int .i64 0, .slice q 0 c] 24)).trans (HB1.out.mono (by simp))
  exact ⟨rfl, hB1.trans (hb2.mono hB1.size)⟩
set_option maxRecDepth 100000 in
theorem type_con (d : Nat) (n : ByteArray) (kids : List Tm) (h : TokenOk 1 n) (ha : AllYes 9 d kids) : Holds 9 (d + 1) (.mk 2 ⟨#[]⟩ n 0 kids) := by
  intro v w hT
  obtain ⟨d1, k, p, n', N, s, l, e1, e2, rfl, _, _, hk⟩ := hT.open
  cases e2
  obtain rfl : d = d1 := by omega
  have HK := Lib.hid (hk.below (below_alloc w (.cells #[.int .i64 2, .string ⟨#[]⟩, .string n, .int .i64 0, s] 24)))
  obtain ⟨q, l, c, rfl⟩ := hk.slice
  have HN := Lib.hid (fun W => qualified_ok 1 2 n (.slice q l c) h ⟨q, l, c, rfl⟩ W)
  have HA := Lib.hid (fun W hW => areAll_ok d kids ha (.slice q l c) W hW)
  clear hT h ha hk e1
  go_enter Tryz.func9, Tryz.ntmps9
  go_wp2_with (first
    | (go_at_call 31; ((with_reducible refine (HN.out _).mono ?_); rintro e w1 ⟨rfl, hb⟩; have HB1 := Lib.hid hb; obtain ⟨hc, hf⟩ := bcell hb; have z1 := hb.size; rw [World.size_alloc] at z1; have y1 : w.heap.size < w1.heap.size := (by omega); have HK1 := Lib.hid (HK.out.below hb)))
    | (go_at_call 32; ((with_reducible refine (HA.out _ HK1.out).mono ?_); rintro e w2 ⟨rfl, hb2⟩)))
  go_ret
  have hB1 := (below_alloc w (.cells #[.int .i64 2, .string ⟨#[]⟩, .string n, .int .i64 0, .slice q l c] 24)).trans (HB1.out.mono (by simp))
  exact ⟨rfl, hB1.trans (hb2.mono hB1.size)⟩
set_option maxRecDepth 100000 in
theorem type_fun (d : Nat) (kids : List Tm) (h2 : kids.length = 2) (ha : AllYes 9 d kids) : Holds 9 (d + 1) (.mk 3 ⟨#[]⟩ ⟨#[]⟩ 0 kids) := by
  intro v w hT
  obtain ⟨d1, k, p, n', N, s, l, e1, e2, rfl, _, _, hk⟩ := hT.open
  cases e2
  obtain rfl : d = d1 := by omega
  have HK := Lib.hid (hk.below (below_alloc w (.cells #[.int .i64 3, .string ⟨#[]⟩, .string ⟨#[]⟩, .int .i64 0, s] 24)))
  obtain ⟨q, l, c, rfl⟩ := hk.slice
  have HN := Lib.hid (fun W => bare_ok 3 (.slice q l c) ⟨q, l, c, rfl⟩ W)
  have HA : RowKit.Hid (∀ (W : World), KidsT W d (.slice q l c) kids → Calls Tryz.prog 30 #[.slice q l c, .slice (some ⟨W.heap.size, 0, none⟩) 2 2] (W.alloc (.cells #[.func (.func 9) #[] #[], .func (.func 9) #[] #[]] 25)) (Yes (W.alloc (.cells #[.func (.func 9) #[] #[], .func (.func 9) #[] #[]] 25)))) := Lib.hid fun W hW => by
    have h := isOf_ok9 d kids ha (.slice q l c) W.heap.size (W.alloc (.cells #[.func (.func 9) #[] #[], .func (.func 9) #[] #[]] 25)) (hW.below (below_alloc W _)) (fun j hj => by
      have h3 : j = 0 ∨ j = 1 := (by omega)
      rcases h3 with rfl | rfl
      · exact hb_at (hb_new W _) 0 rfl
      · exact hb_at (hb_new W _) 1 rfl) (by simp)
    rwa [h2] at h
  clear hT ha hk e1 h2
  go_enter Tryz.func9, Tryz.ntmps9
  go_wp2_with (first
    | (go_at_call 33; ((with_reducible refine (HN.out _).mono ?_); rintro e w1 ⟨rfl, hb⟩; have HB1 := Lib.hid hb; obtain ⟨hc, hf⟩ := bcell hb; have z1 := hb.size; rw [World.size_alloc] at z1; have y1 : w.heap.size < w1.heap.size := (by omega); have HK1 := Lib.hid (HK.out.below hb)))
    | (go_at_call 30; ((with_reducible refine (HA.out _ HK1.out).mono ?_); rintro e w2 ⟨rfl, hb2⟩)))
  go_ret
  have hB1 := (below_alloc w (.cells #[.int .i64 3, .string ⟨#[]⟩, .string ⟨#[]⟩, .int .i64 0, .slice q l c] 24)).trans (HB1.out.mono (by simp))
  have hB2 := hB1.alloc hB1.size (.cells #[.func (.func 9) #[] #[], .func (.func 9) #[] #[]] 25)
  exact ⟨rfl, hB2.trans (hb2.mono hB2.size)⟩
set_option maxRecDepth 100000 in
theorem expr_var (d : Nat) (n : ByteArray) (h : TokenOk 1 n) : Holds 13 d (.mk 21 ⟨#[]⟩ n 0 []) := by
  intro v w hT
  obtain ⟨d1, k, p, n', N, s, l, e1, e2, rfl, _, _, hk⟩ := hT.open
  cases e2
  obtain ⟨q, c, rfl, _, _⟩ := hk
  have HN := Lib.hid (fun W => qualified_ok 1 21 n (.slice q 0 c) h ⟨q, 0, c, rfl⟩ W)
  have HI := Lib.hid (fun W => isOf_nil q c W)
  clear hT h
  go_enter Tryz.func13, Tryz.ntmps13
  go_wp2_with (first
    | (go_at_call 31; ((with_reducible refine (HN.out _).mono ?_); rintro e w1 ⟨rfl, hb⟩; have HB1 := Lib.hid hb; obtain ⟨hc, hf⟩ := bcell hb; have z1 := hb.size; rw [World.size_alloc] at z1; have y1 : w.heap.size < w1.heap.size := (by omega)))
    | (go_at_call 30; ((with_reducible refine (HI.out _).mono ?_); rintro e w2 ⟨rfl, hb2⟩)))
  go_ret
  have hB1 := (below_alloc w (.cells #[.int .i64 21, .string ⟨#[]⟩, .string n, .int .i64 0, .slice q 0 c] 24)).trans (HB1.out.mono (by simp))
  exact ⟨rfl, hB1.trans (hb2.mono hB1.size)⟩
set_option maxRecDepth 100000 in
theorem expr_app (d : Nat) (kids : List Tm) (h2 : kids.length = 2) (ha : AllYes 13 d kids) : Holds 13 (d + 1) (.mk 27 ⟨#[]⟩ ⟨#[]⟩ 0 kids) := by
  intro v w hT
  obtain ⟨d1, k, p, n', N, s, l, e1, e2, rfl, _, _, hk⟩ := hT.open
  cases e2
  obtain rfl : d = d1 := by omega
  have HK := Lib.hid (hk.below (below_alloc w (.cells #[.int .i64 27, .string ⟨#[]⟩, .string ⟨#[]⟩, .int .i64 0, s] 24)))
  obtain ⟨q, l, c, rfl⟩ := hk.slice
  have HN := Lib.hid (fun W => bare_ok 27 (.slice q l c) ⟨q, l, c, rfl⟩ W)
  have HA : RowKit.Hid (∀ (W : World), KidsT W d (.slice q l c) kids → Calls Tryz.prog 30 #[.slice q l c, .slice (some ⟨W.heap.size, 0, none⟩) 2 2] (W.alloc (.cells #[.func (.func 13) #[] #[], .func (.func 13) #[] #[]] 25)) (Yes (W.alloc (.cells #[.func (.func 13) #[] #[], .func (.func 13) #[] #[]] 25)))) := Lib.hid fun W hW => by
    have h := isOf_ok13 d kids ha (.slice q l c) W.heap.size (W.alloc (.cells #[.func (.func 13) #[] #[], .func (.func 13) #[] #[]] 25)) (hW.below (below_alloc W _)) (fun j hj => by
      have h3 : j = 0 ∨ j = 1 := (by omega)
      rcases h3 with rfl | rfl
      · exact hb_at (hb_new W _) 0 rfl
      · exact hb_at (hb_new W _) 1 rfl) (by simp)
    rwa [h2] at h
  clear hT ha hk e1 h2
  go_enter Tryz.func13, Tryz.ntmps13
  go_wp2_with (first
    | (go_at_call 33; ((with_reducible refine (HN.out _).mono ?_); rintro e w1 ⟨rfl, hb⟩; have HB1 := Lib.hid hb; obtain ⟨hc, hf⟩ := bcell hb; have z1 := hb.size; rw [World.size_alloc] at z1; have y1 : w.heap.size < w1.heap.size := (by omega); have HK1 := Lib.hid (HK.out.below hb)))
    | (go_at_call 30; ((with_reducible refine (HA.out _ HK1.out).mono ?_); rintro e w2 ⟨rfl, hb2⟩)))
  go_ret
  have hB1 := (below_alloc w (.cells #[.int .i64 27, .string ⟨#[]⟩, .string ⟨#[]⟩, .int .i64 0, .slice q l c] 24)).trans (HB1.out.mono (by simp))
  have hB2 := hB1.alloc hB1.size (.cells #[.func (.func 13) #[] #[], .func (.func 13) #[] #[]] 25)
  exact ⟨rfl, hB2.trans (hb2.mono hB2.size)⟩
set_option maxRecDepth 100000 in
theorem expr_fun (d : Nat) (n : ByteArray) (kids : List Tm) (hn : TokenOk 1 n) (h2 : kids.length = 1) (ha : AllYes 13 d kids) : Holds 13 (d + 1) (.mk 26 ⟨#[]⟩ n 0 kids) := by
  intro v w hT
  obtain ⟨d1, k, p, n2, N, s, l, e1, e2, rfl, _, _, hk⟩ := hT.open
  cases e2
  obtain rfl : d = d1 := by omega
  have HK := Lib.hid (hk.below (below_alloc w (.cells #[.int .i64 26, .string ⟨#[]⟩, .string n, .int .i64 0, s] 24)))
  obtain ⟨q, l, c, rfl⟩ := hk.slice
  have HN := Lib.hid (fun W => named_ok 1 26 n (.slice q l c) hn ⟨q, l, c, rfl⟩ W)
  have HA : RowKit.Hid (∀ (W : World), KidsT W d (.slice q l c) kids → Calls Tryz.prog 30 #[.slice q l c, .slice (some ⟨W.heap.size, 0, none⟩) 1 1] (W.alloc (.cells #[.func (.func 13) #[] #[]] 25)) (Yes (W.alloc (.cells #[.func (.func 13) #[] #[]] 25)))) := Lib.hid fun W hW => by
    have h := isOf_ok13 d kids ha (.slice q l c) W.heap.size (W.alloc (.cells #[.func (.func 13) #[] #[]] 25)) (hW.below (below_alloc W _)) (fun j hj => by
      obtain rfl : j = 0 := (by omega)
      exact hb_at (hb_new W _) 0 rfl) (by simp)
    rwa [h2] at h
  clear hT ha hk e1 h2 hn
  go_enter Tryz.func13, Tryz.ntmps13
  go_wp2_with (first
    | (go_at_call 29; ((with_reducible refine (HN.out _).mono ?_); rintro e w1 ⟨rfl, hb⟩; have HB1 := Lib.hid hb; obtain ⟨hc, hf⟩ := bcell hb; have z1 := hb.size; rw [World.size_alloc] at z1; have y1 : w.heap.size < w1.heap.size := (by omega); have HK1 := Lib.hid (HK.out.below hb)))
    | (go_at_call 30; ((with_reducible refine (HA.out _ HK1.out).mono ?_); rintro e w2 ⟨rfl, hb2⟩)))
  go_ret
  have hB1 := (below_alloc w (.cells #[.int .i64 26, .string ⟨#[]⟩, .string n, .int .i64 0, .slice q l c] 24)).trans (HB1.out.mono (by simp))
  have hB2 := hB1.alloc hB1.size (.cells #[.func (.func 13) #[] #[]] 25)
  exact ⟨rfl, hB2.trans (hb2.mono hB2.size)⟩
set_option maxRecDepth 100000 in
theorem pat_no (p n : ByteArray) (N : Int) (q : Option Addr) (l c : Nat) (w : World) : Calls Tryz.prog 11 #[tv 26 p n N (.slice q l c)] w fun e w' => e = .returned (.bool false) ∧ Below w.heap.size w w' := by
  go_enter Tryz.func11, Tryz.ntmps11
  go_wp2
  go_ret
  exact ⟨rfl, below_alloc w _⟩
end Go.Proofs.YthcpmdgdbceeiaaGreatDoor
