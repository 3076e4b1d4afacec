/- Texts in a row: Wj Wk Wl Wm. -/
import Derived.Test.YtmkjalnlldpdcaaGreatDoorZT13
set_option maxHeartbeats 16000000
set_option maxRecDepth 100000
namespace Go.Proofs.YtmkjalnlldpdcaaGreatDoor
open Go.RowKit
set_option linter.unusedSimpArgs false
set_option linter.unusedVariables false
structure St (w0 : World) (b : Nat) (l : List UInt8) (w : World) (cs : Array Value) (x : List UInt8) (wi : World) : Prop where
 cx : Cx w0 b (l ++ x) wi
 wr : Wr w0.heap.size b l x w wi
 bx : wi.heap[w.heap.size]? = some (.cells cs 24 (0, 0))
 hb : w.heap.size ≠ b
 hz : w0.heap.size ≤ w.heap.size
theorem St.start {w0 w : World} {b : Nat} {l : List UInt8} (h : Cx w0 b l w) (cs : Array Value) : St w0 b l w cs [] (w.alloc (.cells cs 24)) :=
 ⟨by rw [List.append_nil]; exact h.alloc _, (Wr.open h).grow h.size (below_alloc w _), hb_new w (.cells cs 24), by have := h.lt; omega, h.size⟩
theorem St.next {w0 w wi wj wk : World} {b : Nat} {l x y : List UInt8} {cs : Array Value} (h : St w0 b l w cs x wi) (hb : Below wi.heap.size wi wj) (k : Wr w0.heap.size b (l ++ x) y wj wk) : St w0 b l w cs (x ++ y) wk :=
 ⟨by rw [← List.append_assoc]; exact (h.cx.grow hb).wr k, Wr.next h.wr h.hz hb k, k.2.2 _ _ 24 _ h.hb (by decide) (by rw [hb.block _ (hb_lt h.bx)]; exact h.bx), h.hb, h.hz⟩
theorem St.row {w0 w wi : World} {b d : Nat} {l x : List UInt8} {cs : Array Value} {s : Value} {kids : List Tm} (h : St w0 b l w cs x wi) (hk : KidsC w0 d s kids) : Row9 w0 wi b d s kids := Row9.of hk h.cx.bel
theorem Row9.empty {w0 w : World} {b d : Nat} {q : Option Addr} {c : Nat} : Row9 w0 w b d (.slice q 0 c) [] := ⟨q, c, rfl, by simp, fun i x hx => by simp at hx⟩
theorem Row9.drop {w0 w : World} {b d : Nat} {g o c : Nat} {kids : List Tm} (h : Row9 w0 w b d (.slice (some ⟨g, o, none⟩) kids.length c) kids) (i n c' : Nat) (hi : i ≤ kids.length) (hn : n = kids.length - i) :
 Row9 w0 w b d (.slice (some ⟨g, o + i * 5, none⟩) n c') (kids.drop i) := by
 obtain ⟨q, c1, e, hm, hr⟩ := h
 cases e
 refine ⟨_, c', by rw [List.length_drop, hn], by rw [List.length_drop]; omega, fun j x hx => ?_⟩
 rw [List.getElem?_drop] at hx
 obtain ⟨g', o', k, p, n, N, s', e1, e2, e3, e4⟩ := hr (i + j) x hx
 cases e1
 refine ⟨g, o + i * 5, k, p, n, N, s', rfl, ?_, e3, e4⟩
 rw [show o + i * 5 + j * 5 = o + (i + j) * 5 from by omega]
 exact e2
theorem letR2_any {w0 : World} (b d : Nat) (HT : TermC d) (l : List UInt8) (k : Int) (p n : ByteArray) (q : Option Addr) (c : Nat) (A C : Tm) (w : World) (h : Cx w0 b l w) (hk : KidsC w0 d (.slice q [A, C].length c) [A, C]) (hw : ∀ x ∈ [A, C], WfT d x) (hc : 2 ≤ c) 
 (hl : l.length + (cmpT 28 n 1 ([A, C].map fun x => (x, txt d x))).length ≤ 1000000000) :
 Calls Tryz.prog 198 #[wp b, tv k p n 1 (.slice q [A, C].length c)] w (Tells w0 b l (cmpT 28 n 1 ([A, C].map fun x => (x, txt d x))) w) := by
 have hX : cmpT 28 n 1 ([A, C].map fun x => (x, txt d x)) = (((((((([] ++ [108, 101, 116, 32]) ++ [114, 101, 99, 32]) ++ n.data.toList) ++ annT (([] : List Tm).map (txt d))) ++ [32, 61, 32]) ++ txt d A) ++ [32, 105, 110, 32]) ++ txt d C) := by simp [cmpT, Function.comp_def]
 rw [hX] at hl ⊢
 have HK := Hd hk
 obtain ⟨_, _, e, _, hr⟩ := hk
 cases e
 obtain ⟨gg, oo, kk0, pp0, nn0, NN0, ss, eq0, ha0, ht0⟩ := hr 0 A rfl
 subst eq0
 obtain ⟨qq0, ll0, cc0, rfl⟩ := term_slice ht0
 have HA0 := Hd ha0
 obtain ⟨gg1, oo1, kk1, pp1, nn1, NN1, ss1, eq1, ha1, ht1⟩ := hr 1 C rfl
 cases eq1
 obtain ⟨qq1, ll1, cc1, rfl⟩ := term_slice ht1
 have HA1 := Hd ha1
 have h0 := Hd (fun W g (hW : Cx w0 b (l ++ []) W) hg => add1 (w0 := w0) (b := b) ⟨#[108, 101, 116, 32]⟩ W g hW hg Q63)
 have h1 := Hd (fun W g (hW : Cx w0 b (l ++ ([] ++ [108, 101, 116, 32])) W) hg => add1 (w0 := w0) (b := b) ⟨#[114, 101, 99, 32]⟩ W g hW hg Q63)
 have h2 := Hd (fun W g (hW : Cx w0 b (l ++ (([] ++ [108, 101, 116, 32]) ++ [114, 101, 99, 32])) W) hg => add1 (w0 := w0) (b := b) n W g hW hg Q63)
 have h3 : RowKit.Hid (∀ W s, Cx w0 b (l ++ ((([] ++ [108, 101, 116, 32]) ++ [114, 101, 99, 32]) ++ n.data.toList)) W → Row9 w0 W b d s ([] : List Tm) → Calls Tryz.prog 104 #[wp b, s] W (Tells w0 b (l ++ ((([] ++ [108, 101, 116, 32]) ++ [114, 101, 99, 32]) ++ n.data.toList)) (annT (([] : List Tm).map (txt d))) W)) := Hd fun W s hW hR => ann_any b d HT _ s ([] : List Tm) W hW hR (fun x hx => hw x (by simp at hx <;> simp [hx])) Q63
 have h4 := Hd (fun W g (hW : Cx w0 b (l ++ (((([] ++ [108, 101, 116, 32]) ++ [114, 101, 99, 32]) ++ n.data.toList) ++ annT (([] : List Tm).map (txt d)))) W) hg => add1 (w0 := w0) (b := b) ⟨#[32, 61, 32]⟩ W g hW hg Q63)
 have h5 : RowKit.Hid (∀ W, Cx w0 b (l ++ ((((([] ++ [108, 101, 116, 32]) ++ [114, 101, 99, 32]) ++ n.data.toList) ++ annT (([] : List Tm).map (txt d))) ++ [32, 61, 32])) W → Calls Tryz.prog 75 #[wp b, tv kk0 pp0 nn0 NN0 (.slice qq0 ll0 cc0)] W (Tells w0 b (l ++ ((((([] ++ [108, 101, 116, 32]) ++ [114, 101, 99, 32]) ++ n.data.toList) ++ annT (([] : List Tm).map (txt d))) ++ [32, 61, 32])) (txt d A) W)) := Hd fun W hW => HT w0 b _ _ A W hW ht0 (hw A (by simp)) Q63
 have h6 := Hd (fun W g (hW : Cx w0 b (l ++ (((((([] ++ [108, 101, 116, 32]) ++ [114, 101, 99, 32]) ++ n.data.toList) ++ annT (([] : List Tm).map (txt d))) ++ [32, 61, 32]) ++ txt d A)) W) hg => add1 (w0 := w0) (b := b) ⟨#[32, 105, 110, 32]⟩ W g hW hg Q63)
 have h7 : RowKit.Hid (∀ W, Cx w0 b (l ++ ((((((([] ++ [108, 101, 116, 32]) ++ [114, 101, 99, 32]) ++ n.data.toList) ++ annT (([] : List Tm).map (txt d))) ++ [32, 61, 32]) ++ txt d A) ++ [32, 105, 110, 32])) W → Calls Tryz.prog 75 #[wp b, tv kk1 pp1 nn1 NN1 (.slice qq1 ll1 cc1)] W (Tells w0 b (l ++ ((((((([] ++ [108, 101, 116, 32]) ++ [114, 101, 99, 32]) ++ n.data.toList) ++ annT (([] : List Tm).map (txt d))) ++ [32, 61, 32]) ++ txt d A) ++ [32, 105, 110, 32])) (txt d C) W)) := Hd fun W hW => HT w0 b _ _ C W hW ht1 (hw C (by simp)) Q63
 have S0 := Hd (St.start h #[.int .i64 k, .string p, .string n, .int .i64 1, .slice (some ⟨gg, oo, none⟩) [A, C].length c])
 clear h hl hX hw HT hr ha0 ht0 ha1 ht1
 go_enter Tryz.func198, Tryz.ntmps198
 rcases Nat.eq_or_lt_of_le hc with hc2 | hc2
 · subst hc2
   go_wp2_with (go_at_call 99; refine (h0.out _ _ (S0.out.cx.alloc _) (new_at _ _ _ _ (by simp))).mono ?_; rintro e w1 ⟨rfl, k1⟩; have S1 := Hd (S0.out.next (below_alloc _ _) k1); have m1 := S1.out.bx; obtain ⟨b00, b01, b02, b03, b04⟩ := hb5 m1; clear k1 m1)
   go_wp2_with (go_at_call 99; refine (h1.out _ _ (S1.out.cx.alloc _) (new_at _ _ _ _ (by simp))).mono ?_; rintro e w2 ⟨rfl, k1⟩; have S2 := Hd (S1.out.next (below_alloc _ _) k1); have m1 := S2.out.bx; obtain ⟨b10, b11, b12, b13, b14⟩ := hb5 m1; clear k1 m1)
   go_wp2_with (go_at_call 99; refine (h2.out _ _ (S2.out.cx.alloc _) (new_at _ _ _ _ (by simp))).mono ?_; rintro e w3 ⟨rfl, k1⟩; have S3 := Hd (S2.out.next (below_alloc _ _) k1); have m1 := S3.out.bx; obtain ⟨b20, b21, b22, b23, b24⟩ := hb5 m1; clear k1 m1)
   go_wp2_with (go_at_call 104; refine (h3.out _ _ S3.out.cx (Row9.empty)).mono ?_; rintro e w4 ⟨rfl, k1⟩; have S4 := Hd (S3.out.next (Below.refl _ _) k1); have m1 := S4.out.bx; obtain ⟨b30, b31, b32, b33, b34⟩ := hb5 m1; clear k1 m1)
   go_wp2_with (go_at_call 99; refine (h4.out _ _ (S4.out.cx.alloc _) (new_at _ _ _ _ (by simp))).mono ?_; rintro e w5 ⟨rfl, k1⟩; have S5 := Hd (S4.out.next (below_alloc _ _) k1); have m1 := S5.out.bx; obtain ⟨b40, b41, b42, b43, b44⟩ := hb5 m1; clear k1 m1; obtain ⟨x50, x51, x52, x53, x54⟩ := HA0.out.below S5.out.cx.bel HA0.out.lt; simp only [Nat.zero_mul, Nat.one_mul, Nat.add_zero] at x50 x51 x52 x53 x54)
   go_wp2_with (go_at_call 75; refine (h5.out _ S5.out.cx).mono ?_; rintro e w6 ⟨rfl, k1⟩; have S6 := Hd (S5.out.next (Below.refl _ _) k1); have m1 := S6.out.bx; obtain ⟨b50, b51, b52, b53, b54⟩ := hb5 m1; clear k1 m1)
   go_wp2_with (go_at_call 99; refine (h6.out _ _ (S6.out.cx.alloc _) (new_at _ _ _ _ (by simp))).mono ?_; rintro e w7 ⟨rfl, k1⟩; have S7 := Hd (S6.out.next (below_alloc _ _) k1); have m1 := S7.out.bx; obtain ⟨b60, b61, b62, b63, b64⟩ := hb5 m1; clear k1 m1; obtain ⟨x70, x71, x72, x73, x74⟩ := HA1.out.below S7.out.cx.bel HA1.out.lt; simp only [Nat.zero_mul, Nat.one_mul, Nat.add_zero] at x70 x71 x72 x73 x74)
   go_wp2_with (go_at_call 75; refine (h7.out _ S7.out.cx).mono ?_; rintro e w8 ⟨rfl, k1⟩; have S8 := Hd (S7.out.next (Below.refl _ _) k1); have m1 := S8.out.bx; obtain ⟨b70, b71, b72, b73, b74⟩ := hb5 m1; clear k1 m1)
   go_end0
   exact ⟨rfl, S8.out.wr⟩
 · have hc3 : ¬ c = 2 := by omega
   go_wp2_with (go_at_call 99; refine (h0.out _ _ (S0.out.cx.alloc _) (new_at _ _ _ _ (by simp))).mono ?_; rintro e w1 ⟨rfl, k1⟩; have S1 := Hd (S0.out.next (below_alloc _ _) k1); have m1 := S1.out.bx; obtain ⟨b00, b01, b02, b03, b04⟩ := hb5 m1; clear k1 m1)
   go_wp2_with (go_at_call 99; refine (h1.out _ _ (S1.out.cx.alloc _) (new_at _ _ _ _ (by simp))).mono ?_; rintro e w2 ⟨rfl, k1⟩; have S2 := Hd (S1.out.next (below_alloc _ _) k1); have m1 := S2.out.bx; obtain ⟨b10, b11, b12, b13, b14⟩ := hb5 m1; clear k1 m1)
   go_wp2_with (go_at_call 99; refine (h2.out _ _ (S2.out.cx.alloc _) (new_at _ _ _ _ (by simp))).mono ?_; rintro e w3 ⟨rfl, k1⟩; have S3 := Hd (S2.out.next (below_alloc _ _) k1); have m1 := S3.out.bx; obtain ⟨b20, b21, b22, b23, b24⟩ := hb5 m1; clear k1 m1)
   go_wp2_with (go_at_call 104; refine (h3.out _ _ S3.out.cx (Row9.empty)).mono ?_; rintro e w4 ⟨rfl, k1⟩; have S4 := Hd (S3.out.next (Below.refl _ _) k1); have m1 := S4.out.bx; obtain ⟨b30, b31, b32, b33, b34⟩ := hb5 m1; clear k1 m1)
   go_wp2_with (go_at_call 99; refine (h4.out _ _ (S4.out.cx.alloc _) (new_at _ _ _ _ (by simp))).mono ?_; rintro e w5 ⟨rfl, k1⟩; have S5 := Hd (S4.out.next (below_alloc _ _) k1); have m1 := S5.out.bx; obtain ⟨b40, b41, b42, b43, b44⟩ := hb5 m1; clear k1 m1; obtain ⟨x50, x51, x52, x53, x54⟩ := HA0.out.below S5.out.cx.bel HA0.out.lt; simp only [Nat.zero_mul, Nat.one_mul, Nat.add_zero] at x50 x51 x52 x53 x54)
   go_wp2_with (go_at_call 75; refine (h5.out _ S5.out.cx).mono ?_; rintro e w6 ⟨rfl, k1⟩; have S6 := Hd (S5.out.next (Below.refl _ _) k1); have m1 := S6.out.bx; obtain ⟨b50, b51, b52, b53, b54⟩ := hb5 m1; clear k1 m1)
   go_wp2_with (go_at_call 99; refine (h6.out _ _ (S6.out.cx.alloc _) (new_at _ _ _ _ (by simp))).mono ?_; rintro e w7 ⟨rfl, k1⟩; have S7 := Hd (S6.out.next (below_alloc _ _) k1); have m1 := S7.out.bx; obtain ⟨b60, b61, b62, b63, b64⟩ := hb5 m1; clear k1 m1; obtain ⟨x70, x71, x72, x73, x74⟩ := HA1.out.below S7.out.cx.bel HA1.out.lt; simp only [Nat.zero_mul, Nat.one_mul, Nat.add_zero] at x70 x71 x72 x73 x74)
   go_wp2_with (go_at_call 75; refine (h7.out _ S7.out.cx).mono ?_; rintro e w8 ⟨rfl, k1⟩; have S8 := Hd (S7.out.next (Below.refl _ _) k1); have m1 := S8.out.bx; obtain ⟨b70, b71, b72, b73, b74⟩ := hb5 m1; clear k1 m1)
   go_end0
   exact ⟨rfl, S8.out.wr⟩
theorem letN2_any {w0 : World} (b d : Nat) (HT : TermC d) (l : List UInt8) (k : Int) (p n : ByteArray) (N : Int) (hN : ¬ N = 1) (q : Option Addr) (c : Nat) (A C : Tm) (w : World) (h : Cx w0 b l w) (hk : KidsC w0 d (.slice q [A, C].length c) [A, C]) (hw : ∀ x ∈ [A, C], WfT d x) (hc : 2 ≤ c) 
 (hl : l.length + (cmpT 28 n N ([A, C].map fun x => (x, txt d x))).length ≤ 1000000000) :
 Calls Tryz.prog 198 #[wp b, tv k p n N (.slice q [A, C].length c)] w (Tells w0 b l (cmpT 28 n N ([A, C].map fun x => (x, txt d x))) w) := by
 have hX : cmpT 28 n N ([A, C].map fun x => (x, txt d x)) = ((((((([] ++ [108, 101, 116, 32]) ++ n.data.toList) ++ annT (([] : List Tm).map (txt d))) ++ [32, 61, 32]) ++ txt d A) ++ [32, 105, 110, 32]) ++ txt d C) := by simp [cmpT, Function.comp_def, hN]
 rw [hX] at hl ⊢
 have HK := Hd hk
 obtain ⟨_, _, e, _, hr⟩ := hk
 cases e
 obtain ⟨gg, oo, kk0, pp0, nn0, NN0, ss, eq0, ha0, ht0⟩ := hr 0 A rfl
 subst eq0
 obtain ⟨qq0, ll0, cc0, rfl⟩ := term_slice ht0
 have HA0 := Hd ha0
 obtain ⟨gg1, oo1, kk1, pp1, nn1, NN1, ss1, eq1, ha1, ht1⟩ := hr 1 C rfl
 cases eq1
 obtain ⟨qq1, ll1, cc1, rfl⟩ := term_slice ht1
 have HA1 := Hd ha1
 have h0 := Hd (fun W g (hW : Cx w0 b (l ++ []) W) hg => add1 (w0 := w0) (b := b) ⟨#[108, 101, 116, 32]⟩ W g hW hg Q63)
 have h1 := Hd (fun W g (hW : Cx w0 b (l ++ ([] ++ [108, 101, 116, 32])) W) hg => add1 (w0 := w0) (b := b) n W g hW hg Q63)
 have h2 : RowKit.Hid (∀ W s, Cx w0 b (l ++ (([] ++ [108, 101, 116, 32]) ++ n.data.toList)) W → Row9 w0 W b d s ([] : List Tm) → Calls Tryz.prog 104 #[wp b, s] W (Tells w0 b (l ++ (([] ++ [108, 101, 116, 32]) ++ n.data.toList)) (annT (([] : List Tm).map (txt d))) W)) := Hd fun W s hW hR => ann_any b d HT _ s ([] : List Tm) W hW hR (fun x hx => hw x (by simp at hx <;> simp [hx])) Q63
 have h3 := Hd (fun W g (hW : Cx w0 b (l ++ ((([] ++ [108, 101, 116, 32]) ++ n.data.toList) ++ annT (([] : List Tm).map (txt d)))) W) hg => add1 (w0 := w0) (b := b) ⟨#[32, 61, 32]⟩ W g hW hg Q63)
 have h4 : RowKit.Hid (∀ W, Cx w0 b (l ++ (((([] ++ [108, 101, 116, 32]) ++ n.data.toList) ++ annT (([] : List Tm).map (txt d))) ++ [32, 61, 32])) W → Calls Tryz.prog 75 #[wp b, tv kk0 pp0 nn0 NN0 (.slice qq0 ll0 cc0)] W (Tells w0 b (l ++ (((([] ++ [108, 101, 116, 32]) ++ n.data.toList) ++ annT (([] : List Tm).map (txt d))) ++ [32, 61, 32])) (txt d A) W)) := Hd fun W hW => HT w0 b _ _ A W hW ht0 (hw A (by simp)) Q63
 have h5 := Hd (fun W g (hW : Cx w0 b (l ++ ((((([] ++ [108, 101, 116, 32]) ++ n.data.toList) ++ annT (([] : List Tm).map (txt d))) ++ [32, 61, 32]) ++ txt d A)) W) hg => add1 (w0 := w0) (b := b) ⟨#[32, 105, 110, 32]⟩ W g hW hg Q63)
 have h6 : RowKit.Hid (∀ W, Cx w0 b (l ++ (((((([] ++ [108, 101, 116, 32]) ++ n.data.toList) ++ annT (([] : List Tm).map (txt d))) ++ [32, 61, 32]) ++ txt d A) ++ [32, 105, 110, 32])) W → Calls Tryz.prog 75 #[wp b, tv kk1 pp1 nn1 NN1 (.slice qq1 ll1 cc1)] W (Tells w0 b (l ++ (((((([] ++ [108, 101, 116, 32]) ++ n.data.toList) ++ annT (([] : List Tm).map (txt d))) ++ [32, 61, 32]) ++ txt d A) ++ [32, 105, 110, 32])) (txt d C) W)) := Hd fun W hW => HT w0 b _ _ C W hW ht1 (hw C (by simp)) Q63
 have S0 := Hd (St.start h #[.int .i64 k, .string p, .string n, .int .i64 N, .slice (some ⟨gg, oo, none⟩) [A, C].length c])
 clear h hl hX hw HT hr ha0 ht0 ha1 ht1
 go_enter Tryz.func198, Tryz.ntmps198
 rcases Nat.eq_or_lt_of_le hc with hc2 | hc2
 · subst hc2
   go_wp2_with (go_at_call 99; refine (h0.out _ _ (S0.out.cx.alloc _) (new_at _ _ _ _ (by simp))).mono ?_; rintro e w1 ⟨rfl, k1⟩; have S1 := Hd (S0.out.next (below_alloc _ _) k1); have m1 := S1.out.bx; obtain ⟨b00, b01, b02, b03, b04⟩ := hb5 m1; clear k1 m1)
   go_wp2_with (go_at_call 99; refine (h1.out _ _ (S1.out.cx.alloc _) (new_at _ _ _ _ (by simp))).mono ?_; rintro e w2 ⟨rfl, k1⟩; have S2 := Hd (S1.out.next (below_alloc _ _) k1); have m1 := S2.out.bx; obtain ⟨b10, b11, b12, b13, b14⟩ := hb5 m1; clear k1 m1)
   go_wp2_with (go_at_call 104; refine (h2.out _ _ S2.out.cx (Row9.empty)).mono ?_; rintro e w3 ⟨rfl, k1⟩; have S3 := Hd (S2.out.next (Below.refl _ _) k1); have m1 := S3.out.bx; obtain ⟨b20, b21, b22, b23, b24⟩ := hb5 m1; clear k1 m1)
   go_wp2_with (go_at_call 99; refine (h3.out _ _ (S3.out.cx.alloc _) (new_at _ _ _ _ (by simp))).mono ?_; rintro e w4 ⟨rfl, k1⟩; have S4 := Hd (S3.out.next (below_alloc _ _) k1); have m1 := S4.out.bx; obtain ⟨b30, b31, b32, b33, b34⟩ := hb5 m1; clear k1 m1; obtain ⟨x40, x41, x42, x43, x44⟩ := HA0.out.below S4.out.cx.bel HA0.out.lt; simp only [Nat.zero_mul, Nat.one_mul, Nat.add_zero] at x40 x41 x42 x43 x44)
   go_wp2_with (go_at_call 75; refine (h4.out _ S4.out.cx).mono ?_; rintro e w5 ⟨rfl, k1⟩; have S5 := Hd (S4.out.next (Below.refl _ _) k1); have m1 := S5.out.bx; obtain ⟨b40, b41, b42, b43, b44⟩ := hb5 m1; clear k1 m1)
   go_wp2_with (go_at_call 99; refine (h5.out _ _ (S5.out.cx.alloc _) (new_at _ _ _ _ (by simp))).mono ?_; rintro e w6 ⟨rfl, k1⟩; have S6 := Hd (S5.out.next (below_alloc _ _) k1); have m1 := S6.out.bx; obtain ⟨b50, b51, b52, b53, b54⟩ := hb5 m1; clear k1 m1; obtain ⟨x60, x61, x62, x63, x64⟩ := HA1.out.below S6.out.cx.bel HA1.out.lt; simp only [Nat.zero_mul, Nat.one_mul, Nat.add_zero] at x60 x61 x62 x63 x64)
   go_wp2_with (go_at_call 75; refine (h6.out _ S6.out.cx).mono ?_; rintro e w7 ⟨rfl, k1⟩; have S7 := Hd (S6.out.next (Below.refl _ _) k1); have m1 := S7.out.bx; obtain ⟨b60, b61, b62, b63, b64⟩ := hb5 m1; clear k1 m1)
   go_end0
   exact ⟨rfl, S7.out.wr⟩
 · have hc3 : ¬ c = 2 := by omega
   go_wp2_with (go_at_call 99; refine (h0.out _ _ (S0.out.cx.alloc _) (new_at _ _ _ _ (by simp))).mono ?_; rintro e w1 ⟨rfl, k1⟩; have S1 := Hd (S0.out.next (below_alloc _ _) k1); have m1 := S1.out.bx; obtain ⟨b00, b01, b02, b03, b04⟩ := hb5 m1; clear k1 m1)
   go_wp2_with (go_at_call 99; refine (h1.out _ _ (S1.out.cx.alloc _) (new_at _ _ _ _ (by simp))).mono ?_; rintro e w2 ⟨rfl, k1⟩; have S2 := Hd (S1.out.next (below_alloc _ _) k1); have m1 := S2.out.bx; obtain ⟨b10, b11, b12, b13, b14⟩ := hb5 m1; clear k1 m1)
   go_wp2_with (go_at_call 104; refine (h2.out _ _ S2.out.cx (Row9.empty)).mono ?_; rintro e w3 ⟨rfl, k1⟩; have S3 := Hd (S2.out.next (Below.refl _ _) k1); have m1 := S3.out.bx; obtain ⟨b20, b21, b22, b23, b24⟩ := hb5 m1; clear k1 m1)
   go_wp2_with (go_at_call 99; refine (h3.out _ _ (S3.out.cx.alloc _) (new_at _ _ _ _ (by simp))).mono ?_; rintro e w4 ⟨rfl, k1⟩; have S4 := Hd (S3.out.next (below_alloc _ _) k1); have m1 := S4.out.bx; obtain ⟨b30, b31, b32, b33, b34⟩ := hb5 m1; clear k1 m1; obtain ⟨x40, x41, x42, x43, x44⟩ := HA0.out.below S4.out.cx.bel HA0.out.lt; simp only [Nat.zero_mul, Nat.one_mul, Nat.add_zero] at x40 x41 x42 x43 x44)
   go_wp2_with (go_at_call 75; refine (h4.out _ S4.out.cx).mono ?_; rintro e w5 ⟨rfl, k1⟩; have S5 := Hd (S4.out.next (Below.refl _ _) k1); have m1 := S5.out.bx; obtain ⟨b40, b41, b42, b43, b44⟩ := hb5 m1; clear k1 m1)
   go_wp2_with (go_at_call 99; refine (h5.out _ _ (S5.out.cx.alloc _) (new_at _ _ _ _ (by simp))).mono ?_; rintro e w6 ⟨rfl, k1⟩; have S6 := Hd (S5.out.next (below_alloc _ _) k1); have m1 := S6.out.bx; obtain ⟨b50, b51, b52, b53, b54⟩ := hb5 m1; clear k1 m1; obtain ⟨x60, x61, x62, x63, x64⟩ := HA1.out.below S6.out.cx.bel HA1.out.lt; simp only [Nat.zero_mul, Nat.one_mul, Nat.add_zero] at x60 x61 x62 x63 x64)
   go_wp2_with (go_at_call 75; refine (h6.out _ S6.out.cx).mono ?_; rintro e w7 ⟨rfl, k1⟩; have S7 := Hd (S6.out.next (Below.refl _ _) k1); have m1 := S7.out.bx; obtain ⟨b60, b61, b62, b63, b64⟩ := hb5 m1; clear k1 m1)
   go_end0
   exact ⟨rfl, S7.out.wr⟩
theorem letR3_any {w0 : World} (b d : Nat) (HT : TermC d) (l : List UInt8) (k : Int) (p n : ByteArray) (q : Option Addr) (c : Nat) (A C D : Tm) (w : World) (h : Cx w0 b l w) (hk : KidsC w0 d (.slice q [A, C, D].length c) [A, C, D]) (hw : ∀ x ∈ [A, C, D], WfT d x) (hc : 3 ≤ c) 
 (hl : l.length + (cmpT 28 n 1 ([A, C, D].map fun x => (x, txt d x))).length ≤ 1000000000) :
 Calls Tryz.prog 198 #[wp b, tv k p n 1 (.slice q [A, C, D].length c)] w (Tells w0 b l (cmpT 28 n 1 ([A, C, D].map fun x => (x, txt d x))) w) := by
 have hX : cmpT 28 n 1 ([A, C, D].map fun x => (x, txt d x)) = (((((((([] ++ [108, 101, 116, 32]) ++ [114, 101, 99, 32]) ++ n.data.toList) ++ annT ([D].map (txt d))) ++ [32, 61, 32]) ++ txt d A) ++ [32, 105, 110, 32]) ++ txt d C) := by simp [cmpT, Function.comp_def]
 rw [hX] at hl ⊢
 have HK := Hd hk
 obtain ⟨_, _, e, _, hr⟩ := hk
 cases e
 obtain ⟨gg, oo, kk0, pp0, nn0, NN0, ss, eq0, ha0, ht0⟩ := hr 0 A rfl
 subst eq0
 obtain ⟨qq0, ll0, cc0, rfl⟩ := term_slice ht0
 have HA0 := Hd ha0
 obtain ⟨gg1, oo1, kk1, pp1, nn1, NN1, ss1, eq1, ha1, ht1⟩ := hr 1 C rfl
 cases eq1
 obtain ⟨qq1, ll1, cc1, rfl⟩ := term_slice ht1
 have HA1 := Hd ha1
 have h0 := Hd (fun W g (hW : Cx w0 b (l ++ []) W) hg => add1 (w0 := w0) (b := b) ⟨#[108, 101, 116, 32]⟩ W g hW hg Q63)
 have h1 := Hd (fun W g (hW : Cx w0 b (l ++ ([] ++ [108, 101, 116, 32])) W) hg => add1 (w0 := w0) (b := b) ⟨#[114, 101, 99, 32]⟩ W g hW hg Q63)
 have h2 := Hd (fun W g (hW : Cx w0 b (l ++ (([] ++ [108, 101, 116, 32]) ++ [114, 101, 99, 32])) W) hg => add1 (w0 := w0) (b := b) n W g hW hg Q63)
 have h3 : RowKit.Hid (∀ W s, Cx w0 b (l ++ ((([] ++ [108, 101, 116, 32]) ++ [114, 101, 99, 32]) ++ n.data.toList)) W → Row9 w0 W b d s [D] → Calls Tryz.prog 104 #[wp b, s] W (Tells w0 b (l ++ ((([] ++ [108, 101, 116, 32]) ++ [114, 101, 99, 32]) ++ n.data.toList)) (annT ([D].map (txt d))) W)) := Hd fun W s hW hR => ann_any b d HT _ s [D] W hW hR (fun x hx => hw x (by simp at hx <;> simp [hx])) Q63
 have h4 := Hd (fun W g (hW : Cx w0 b (l ++ (((([] ++ [108, 101, 116, 32]) ++ [114, 101, 99, 32]) ++ n.data.toList) ++ annT ([D].map (txt d)))) W) hg => add1 (w0 := w0) (b := b) ⟨#[32, 61, 32]⟩ W g hW hg Q63)
 have h5 : RowKit.Hid (∀ W, Cx w0 b (l ++ ((((([] ++ [108, 101, 116, 32]) ++ [114, 101, 99, 32]) ++ n.data.toList) ++ annT ([D].map (txt d))) ++ [32, 61, 32])) W → Calls Tryz.prog 75 #[wp b, tv kk0 pp0 nn0 NN0 (.slice qq0 ll0 cc0)] W (Tells w0 b (l ++ ((((([] ++ [108, 101, 116, 32]) ++ [114, 101, 99, 32]) ++ n.data.toList) ++ annT ([D].map (txt d))) ++ [32, 61, 32])) (txt d A) W)) := Hd fun W hW => HT w0 b _ _ A W hW ht0 (hw A (by simp)) Q63
 have h6 := Hd (fun W g (hW : Cx w0 b (l ++ (((((([] ++ [108, 101, 116, 32]) ++ [114, 101, 99, 32]) ++ n.data.toList) ++ annT ([D].map (txt d))) ++ [32, 61, 32]) ++ txt d A)) W) hg => add1 (w0 := w0) (b := b) ⟨#[32, 105, 110, 32]⟩ W g hW hg Q63)
 have h7 : RowKit.Hid (∀ W, Cx w0 b (l ++ ((((((([] ++ [108, 101, 116, 32]) ++ [114, 101, 99, 32]) ++ n.data.toList) ++ annT ([D].map (txt d))) ++ [32, 61, 32]) ++ txt d A) ++ [32, 105, 110, 32])) W → Calls Tryz.prog 75 #[wp b, tv kk1 pp1 nn1 NN1 (.slice qq1 ll1 cc1)] W (Tells w0 b (l ++ ((((((([] ++ [108, 101, 116, 32]) ++ [114, 101, 99, 32]) ++ n.data.toList) ++ annT ([D].map (txt d))) ++ [32, 61, 32]) ++ txt d A) ++ [32, 105, 110, 32])) (txt d C) W)) := Hd fun W hW => HT w0 b _ _ C W hW ht1 (hw C (by simp)) Q63
 have S0 := Hd (St.start h #[.int .i64 k, .string p, .string n, .int .i64 1, .slice (some ⟨gg, oo, none⟩) [A, C, D].length c])
 clear h hl hX hw HT hr ha0 ht0 ha1 ht1
 go_enter Tryz.func198, Tryz.ntmps198
 have hc2 : ¬ c = 2 := by omega
 have hc3 : 2 ≤ c := by omega
 go_wp2_with (go_at_call 99; refine (h0.out _ _ (S0.out.cx.alloc _) (new_at _ _ _ _ (by simp))).mono ?_; rintro e w1 ⟨rfl, k1⟩; have S1 := Hd (S0.out.next (below_alloc _ _) k1); have m1 := S1.out.bx; obtain ⟨b00, b01, b02, b03, b04⟩ := hb5 m1; clear k1 m1)
 go_wp2_with (go_at_call 99; refine (h1.out _ _ (S1.out.cx.alloc _) (new_at _ _ _ _ (by simp))).mono ?_; rintro e w2 ⟨rfl, k1⟩; have S2 := Hd (S1.out.next (below_alloc _ _) k1); have m1 := S2.out.bx; obtain ⟨b10, b11, b12, b13, b14⟩ := hb5 m1; clear k1 m1)
 go_wp2_with (go_at_call 99; refine (h2.out _ _ (S2.out.cx.alloc _) (new_at _ _ _ _ (by simp))).mono ?_; rintro e w3 ⟨rfl, k1⟩; have S3 := Hd (S2.out.next (below_alloc _ _) k1); have m1 := S3.out.bx; obtain ⟨b20, b21, b22, b23, b24⟩ := hb5 m1; clear k1 m1)
 go_wp2_with (go_at_call 104; refine (h3.out _ _ S3.out.cx ((Row9.drop (kids := [A, C, D]) (Row9.of HK.out S3.out.cx.bel) 2 1 _ (by simp) rfl))).mono ?_; rintro e w4 ⟨rfl, k1⟩; have S4 := Hd (S3.out.next (Below.refl _ _) k1); have m1 := S4.out.bx; obtain ⟨b30, b31, b32, b33, b34⟩ := hb5 m1; clear k1 m1)
 go_wp2_with (go_at_call 99; refine (h4.out _ _ (S4.out.cx.alloc _) (new_at _ _ _ _ (by simp))).mono ?_; rintro e w5 ⟨rfl, k1⟩; have S5 := Hd (S4.out.next (below_alloc _ _) k1); have m1 := S5.out.bx; obtain ⟨b40, b41, b42, b43, b44⟩ := hb5 m1; clear k1 m1; obtain ⟨x50, x51, x52, x53, x54⟩ := HA0.out.below S5.out.cx.bel HA0.out.lt; simp only [Nat.zero_mul, Nat.one_mul, Nat.add_zero] at x50 x51 x52 x53 x54)
 go_wp2_with (go_at_call 75; refine (h5.out _ S5.out.cx).mono ?_; rintro e w6 ⟨rfl, k1⟩; have S6 := Hd (S5.out.next (Below.refl _ _) k1); have m1 := S6.out.bx; obtain ⟨b50, b51, b52, b53, b54⟩ := hb5 m1; clear k1 m1)
 go_wp2_with (go_at_call 99; refine (h6.out _ _ (S6.out.cx.alloc _) (new_at _ _ _ _ (by simp))).mono ?_; rintro e w7 ⟨rfl, k1⟩; have S7 := Hd (S6.out.next (below_alloc _ _) k1); have m1 := S7.out.bx; obtain ⟨b60, b61, b62, b63, b64⟩ := hb5 m1; clear k1 m1; obtain ⟨x70, x71, x72, x73, x74⟩ := HA1.out.below S7.out.cx.bel HA1.out.lt; simp only [Nat.zero_mul, Nat.one_mul, Nat.add_zero] at x70 x71 x72 x73 x74)
 go_wp2_with (go_at_call 75; refine (h7.out _ S7.out.cx).mono ?_; rintro e w8 ⟨rfl, k1⟩; have S8 := Hd (S7.out.next (Below.refl _ _) k1); have m1 := S8.out.bx; obtain ⟨b70, b71, b72, b73, b74⟩ := hb5 m1; clear k1 m1)
 go_end0
 exact ⟨rfl, S8.out.wr⟩
theorem letN3_any {w0 : World} (b d : Nat) (HT : TermC d) (l : List UInt8) (k : Int) (p n : ByteArray) (N : Int) (hN : ¬ N = 1) (q : Option Addr) (c : Nat) (A C D : Tm) (w : World) (h : Cx w0 b l w) (hk : KidsC w0 d (.slice q [A, C, D].length c) [A, C, D]) (hw : ∀ x ∈ [A, C, D], WfT d x) (hc : 3 ≤ c) 
 (hl : l.length + (cmpT 28 n N ([A, C, D].map fun x => (x, txt d x))).length ≤ 1000000000) :
 Calls Tryz.prog 198 #[wp b, tv k p n N (.slice q [A, C, D].length c)] w (Tells w0 b l (cmpT 28 n N ([A, C, D].map fun x => (x, txt d x))) w) := by
 have hX : cmpT 28 n N ([A, C, D].map fun x => (x, txt d x)) = ((((((([] ++ [108, 101, 116, 32]) ++ n.data.toList) ++ annT ([D].map (txt d))) ++ [32, 61, 32]) ++ txt d A) ++ [32, 105, 110, 32]) ++ txt d C) := by simp [cmpT, Function.comp_def, hN]
 rw [hX] at hl ⊢
 have HK := Hd hk
 obtain ⟨_, _, e, _, hr⟩ := hk
 cases e
 obtain ⟨gg, oo, kk0, pp0, nn0, NN0, ss, eq0, ha0, ht0⟩ := hr 0 A rfl
 subst eq0
 obtain ⟨qq0, ll0, cc0, rfl⟩ := term_slice ht0
 have HA0 := Hd ha0
 obtain ⟨gg1, oo1, kk1, pp1, nn1, NN1, ss1, eq1, ha1, ht1⟩ := hr 1 C rfl
 cases eq1
 obtain ⟨qq1, ll1, cc1, rfl⟩ := term_slice ht1
 have HA1 := Hd ha1
 have h0 := Hd (fun W g (hW : Cx w0 b (l ++ []) W) hg => add1 (w0 := w0) (b := b) ⟨#[108, 101, 116, 32]⟩ W g hW hg Q63)
 have h1 := Hd (fun W g (hW : Cx w0 b (l ++ ([] ++ [108, 101, 116, 32])) W) hg => add1 (w0 := w0) (b := b) n W g hW hg Q63)
 have h2 : RowKit.Hid (∀ W s, Cx w0 b (l ++ (([] ++ [108, 101, 116, 32]) ++ n.data.toList)) W → Row9 w0 W b d s [D] → Calls Tryz.prog 104 #[wp b, s] W (Tells w0 b (l ++ (([] ++ [108, 101, 116, 32]) ++ n.data.toList)) (annT ([D].map (txt d))) W)) := Hd fun W s hW hR => ann_any b d HT _ s [D] W hW hR (fun x hx => hw x (by simp at hx <;> simp [hx])) Q63
 have h3 := Hd (fun W g (hW : Cx w0 b (l ++ ((([] ++ [108, 101, 116, 32]) ++ n.data.toList) ++ annT ([D].map (txt d)))) W) hg => add1 (w0 := w0) (b := b) ⟨#[32, 61, 32]⟩ W g hW hg Q63)
 have h4 : RowKit.Hid (∀ W, Cx w0 b (l ++ (((([] ++ [108, 101, 116, 32]) ++ n.data.toList) ++ annT ([D].map (txt d))) ++ [32, 61, 32])) W → Calls Tryz.prog 75 #[wp b, tv kk0 pp0 nn0 NN0 (.slice qq0 ll0 cc0)] W (Tells w0 b (l ++ (((([] ++ [108, 101, 116, 32]) ++ n.data.toList) ++ annT ([D].map (txt d))) ++ [32, 61, 32])) (txt d A) W)) := Hd fun W hW => HT w0 b _ _ A W hW ht0 (hw A (by simp)) Q63
 have h5 := Hd (fun W g (hW : Cx w0 b (l ++ ((((([] ++ [108, 101, 116, 32]) ++ n.data.toList) ++ annT ([D].map (txt d))) ++ [32, 61, 32]) ++ txt d A)) W) hg => add1 (w0 := w0) (b := b) ⟨#[32, 105, 110, 32]⟩ W g hW hg Q63)
 have h6 : RowKit.Hid (∀ W, Cx w0 b (l ++ (((((([] ++ [108, 101, 116, 32]) ++ n.data.toList) ++ annT ([D].map (txt d))) ++ [32, 61, 32]) ++ txt d A) ++ [32, 105, 110, 32])) W → Calls Tryz.prog 75 #[wp b, tv kk1 pp1 nn1 NN1 (.slice qq1 ll1 cc1)] W (Tells w0 b (l ++ (((((([] ++ [108, 101, 116, 32]) ++ n.data.toList) ++ annT ([D].map (txt d))) ++ [32, 61, 32]) ++ txt d A) ++ [32, 105, 110, 32])) (txt d C) W)) := Hd fun W hW => HT w0 b _ _ C W hW ht1 (hw C (by simp)) Q63
 have S0 := Hd (St.start h #[.int .i64 k, .string p, .string n, .int .i64 N, .slice (some ⟨gg, oo, none⟩) [A, C, D].length c])
 clear h hl hX hw HT hr ha0 ht0 ha1 ht1
 go_enter Tryz.func198, Tryz.ntmps198
 have hc2 : ¬ c = 2 := by omega
 have hc3 : 2 ≤ c := by omega
 go_wp2_with (go_at_call 99; refine (h0.out _ _ (S0.out.cx.alloc _) (new_at _ _ _ _ (by simp))).mono ?_; rintro e w1 ⟨rfl, k1⟩; have S1 := Hd (S0.out.next (below_alloc _ _) k1); have m1 := S1.out.bx; obtain ⟨b00, b01, b02, b03, b04⟩ := hb5 m1; clear k1 m1)
 go_wp2_with (go_at_call 99; refine (h1.out _ _ (S1.out.cx.alloc _) (new_at _ _ _ _ (by simp))).mono ?_; rintro e w2 ⟨rfl, k1⟩; have S2 := Hd (S1.out.next (below_alloc _ _) k1); have m1 := S2.out.bx; obtain ⟨b10, b11, b12, b13, b14⟩ := hb5 m1; clear k1 m1)
 go_wp2_with (go_at_call 104; refine (h2.out _ _ S2.out.cx ((Row9.drop (kids := [A, C, D]) (Row9.of HK.out S2.out.cx.bel) 2 1 _ (by simp) rfl))).mono ?_; rintro e w3 ⟨rfl, k1⟩; have S3 := Hd (S2.out.next (Below.refl _ _) k1); have m1 := S3.out.bx; obtain ⟨b20, b21, b22, b23, b24⟩ := hb5 m1; clear k1 m1)
 go_wp2_with (go_at_call 99; refine (h3.out _ _ (S3.out.cx.alloc _) (new_at _ _ _ _ (by simp))).mono ?_; rintro e w4 ⟨rfl, k1⟩; have S4 := Hd (S3.out.next (below_alloc _ _) k1); have m1 := S4.out.bx; obtain ⟨b30, b31, b32, b33, b34⟩ := hb5 m1; clear k1 m1; obtain ⟨x40, x41, x42, x43, x44⟩ := HA0.out.below S4.out.cx.bel HA0.out.lt; simp only [Nat.zero_mul, Nat.one_mul, Nat.add_zero] at x40 x41 x42 x43 x44)
 go_wp2_with (go_at_call 75; refine (h4.out _ S4.out.cx).mono ?_; rintro e w5 ⟨rfl, k1⟩; have S5 := Hd (S4.out.next (Below.refl _ _) k1); have m1 := S5.out.bx; obtain ⟨b40, b41, b42, b43, b44⟩ := hb5 m1; clear k1 m1)
 go_wp2_with (go_at_call 99; refine (h5.out _ _ (S5.out.cx.alloc _) (new_at _ _ _ _ (by simp))).mono ?_; rintro e w6 ⟨rfl, k1⟩; have S6 := Hd (S5.out.next (below_alloc _ _) k1); have m1 := S6.out.bx; obtain ⟨b50, b51, b52, b53, b54⟩ := hb5 m1; clear k1 m1; obtain ⟨x60, x61, x62, x63, x64⟩ := HA1.out.below S6.out.cx.bel HA1.out.lt; simp only [Nat.zero_mul, Nat.one_mul, Nat.add_zero] at x60 x61 x62 x63 x64)
 go_wp2_with (go_at_call 75; refine (h6.out _ S6.out.cx).mono ?_; rintro e w7 ⟨rfl, k1⟩; have S7 := Hd (S6.out.next (Below.refl _ _) k1); have m1 := S7.out.bx; obtain ⟨b60, b61, b62, b63, b64⟩ := hb5 m1; clear k1 m1)
 go_end0
 exact ⟨rfl, S7.out.wr⟩
theorem cmp26_any {w0 : World} (b d : Nat) (HT : TermC d) (l : List UInt8) (p n : ByteArray) (N : Int) (q : Option Addr) (c : Nat) (A : Tm) (w : World) (h : Cx w0 b l w) (hk : KidsC w0 d (.slice q [A].length c) [A]) (hw : ∀ x ∈ [A], WfT d x)
 (hl : l.length + (cmpT 26 n N ([A].map fun x => (x, txt d x))).length ≤ 1000000000) :
 Calls Tryz.prog 143 #[wp b, tv 26 p n N (.slice q [A].length c)] w (Tells w0 b l (cmpT 26 n N ([A].map fun x => (x, txt d x))) w) := by
 have hX : cmpT 26 n N ([A].map fun x => (x, txt d x)) = (([] ++ ([102, 117, 110, 32] ++ (n.data.toList ++ [32, 45, 62, 32]))) ++ txt d A) := by simp [cmpT]
 rw [hX] at hl ⊢
 obtain ⟨_, _, e, _, hr⟩ := hk
 cases e
 obtain ⟨gg, oo, kk0, pp0, nn0, NN0, ss, eq0, ha0, ht0⟩ := hr 0 A rfl
 subst eq0
 obtain ⟨qq0, ll0, cc0, rfl⟩ := term_slice ht0
 have HA0 := Hd ha0
 have h0 := Hd (fun W g (hW : Cx w0 b (l ++ []) W) hg => add3 (w0 := w0) (b := b) ⟨#[102, 117, 110, 32]⟩ n ⟨#[32, 45, 62, 32]⟩ W g hW hg Q63)
 have h1 : RowKit.Hid (∀ W, Cx w0 b (l ++ ([] ++ ([102, 117, 110, 32] ++ (n.data.toList ++ [32, 45, 62, 32])))) W → Calls Tryz.prog 75 #[wp b, tv kk0 pp0 nn0 NN0 (.slice qq0 ll0 cc0)] W (Tells w0 b (l ++ ([] ++ ([102, 117, 110, 32] ++ (n.data.toList ++ [32, 45, 62, 32])))) (txt d A) W)) := Hd fun W hW => HT w0 b _ _ A W hW ht0 (hw A (by simp)) Q63
 have S0 := Hd (St.start h #[.int .i64 26, .string p, .string n, .int .i64 N, .slice (some ⟨gg, oo, none⟩) [A].length c])
 clear h hl hX hw HT hr ha0 ht0
 go_enter Tryz.func143, Tryz.ntmps143
 go_wp2_with (go_at_call 99; refine (h0.out _ _ (S0.out.cx.alloc _) (new_at _ _ _ _ (by simp))).mono ?_; rintro e w1 ⟨rfl, k1⟩; have S1 := Hd (S0.out.next (below_alloc _ _) k1); have m1 := S1.out.bx; obtain ⟨b00, b01, b02, b03, b04⟩ := hb5 m1; clear k1 m1; obtain ⟨x10, x11, x12, x13, x14⟩ := HA0.out.below S1.out.cx.bel HA0.out.lt; simp only [Nat.zero_mul, Nat.one_mul, Nat.add_zero] at x10 x11 x12 x13 x14)
 go_wp2_with (go_at_call 75; refine (h1.out _ S1.out.cx).mono ?_; rintro e w2 ⟨rfl, k1⟩; have S2 := Hd (S1.out.next (Below.refl _ _) k1); have m1 := S2.out.bx; obtain ⟨b10, b11, b12, b13, b14⟩ := hb5 m1; clear k1 m1)
 go_end0
 exact ⟨rfl, S2.out.wr⟩
theorem cmp30_any {w0 : World} (b d : Nat) (HT : TermC d) (l : List UInt8) (p n : ByteArray) (N : Int) (q : Option Addr) (c : Nat) (A C : Tm) (w : World) (h : Cx w0 b l w) (hk : KidsC w0 d (.slice q [A, C].length c) [A, C]) (hw : ∀ x ∈ [A, C], WfT d x) (hc : 2 ≤ c)
 (hl : l.length + (cmpT 30 n N ([A, C].map fun x => (x, txt d x))).length ≤ 1000000000) :
 Calls Tryz.prog 143 #[wp b, tv 30 p n N (.slice q [A, C].length c)] w (Tells w0 b l (cmpT 30 n N ([A, C].map fun x => (x, txt d x))) w) := by
 have hX : cmpT 30 n N ([A, C].map fun x => (x, txt d x)) = (((([] ++ [40]) ++ txt d A) ++ annT ([C].map (txt d))) ++ [41]) := by simp [cmpT, Function.comp_def]
 rw [hX] at hl ⊢
 have HK := Hd hk
 obtain ⟨_, _, e, _, hr⟩ := hk
 cases e
 obtain ⟨gg, oo, kk0, pp0, nn0, NN0, ss, eq0, ha0, ht0⟩ := hr 0 A rfl
 subst eq0
 obtain ⟨qq0, ll0, cc0, rfl⟩ := term_slice ht0
 have HA0 := Hd ha0
 have h0 := Hd (fun W g (hW : Cx w0 b (l ++ []) W) hg => add1 (w0 := w0) (b := b) ⟨#[40]⟩ W g hW hg Q63)
 have h1 : RowKit.Hid (∀ W, Cx w0 b (l ++ ([] ++ [40])) W → Calls Tryz.prog 75 #[wp b, tv kk0 pp0 nn0 NN0 (.slice qq0 ll0 cc0)] W (Tells w0 b (l ++ ([] ++ [40])) (txt d A) W)) := Hd fun W hW => HT w0 b _ _ A W hW ht0 (hw A (by simp)) Q63
 have h2 : RowKit.Hid (∀ W s, Cx w0 b (l ++ (([] ++ [40]) ++ txt d A)) W → Row9 w0 W b d s [C] → Calls Tryz.prog 104 #[wp b, s] W (Tells w0 b (l ++ (([] ++ [40]) ++ txt d A)) (annT ([C].map (txt d))) W)) := Hd fun W s hW hR => ann_any b d HT _ s [C] W hW hR (fun x hx => hw x (by simp at hx <;> simp [hx])) Q63
 have h3 := Hd (fun W g (hW : Cx w0 b (l ++ ((([] ++ [40]) ++ txt d A) ++ annT ([C].map (txt d)))) W) hg => add1 (w0 := w0) (b := b) ⟨#[41]⟩ W g hW hg Q63)
 have S0 := Hd (St.start h #[.int .i64 30, .string p, .string n, .int .i64 N, .slice (some ⟨gg, oo, none⟩) [A, C].length c])
 have hc2 : ¬ c = 1 := by omega
 have hc3 : 1 ≤ c := by omega
 clear h hl hX hw HT hr ha0 ht0
 go_enter Tryz.func143, Tryz.ntmps143
 go_wp2_with (go_at_call 99; refine (h0.out _ _ (S0.out.cx.alloc _) (new_at _ _ _ _ (by simp))).mono ?_; rintro e w1 ⟨rfl, k1⟩; have S1 := Hd (S0.out.next (below_alloc _ _) k1); have m1 := S1.out.bx; obtain ⟨b00, b01, b02, b03, b04⟩ := hb5 m1; clear k1 m1; obtain ⟨x10, x11, x12, x13, x14⟩ := HA0.out.below S1.out.cx.bel HA0.out.lt; simp only [Nat.zero_mul, Nat.one_mul, Nat.add_zero] at x10 x11 x12 x13 x14)
 go_wp2_with (go_at_call 75; refine (h1.out _ S1.out.cx).mono ?_; rintro e w2 ⟨rfl, k1⟩; have S2 := Hd (S1.out.next (Below.refl _ _) k1); have m1 := S2.out.bx; obtain ⟨b10, b11, b12, b13, b14⟩ := hb5 m1; clear k1 m1)
 go_wp2_with (go_at_call 104; refine (h2.out _ _ S2.out.cx ((Row9.drop (kids := [A, C]) (Row9.of HK.out S2.out.cx.bel) 1 1 _ (by simp) rfl))).mono ?_; rintro e w3 ⟨rfl, k1⟩; have S3 := Hd (S2.out.next (Below.refl _ _) k1); have m1 := S3.out.bx; obtain ⟨b20, b21, b22, b23, b24⟩ := hb5 m1; clear k1 m1)
 go_wp2_with (go_at_call 99; refine (h3.out _ _ (S3.out.cx.alloc _) (new_at _ _ _ _ (by simp))).mono ?_; rintro e w4 ⟨rfl, k1⟩; have S4 := Hd (S3.out.next (below_alloc _ _) k1); have m1 := S4.out.bx; obtain ⟨b30, b31, b32, b33, b34⟩ := hb5 m1; clear k1 m1)
 go_end0
 exact ⟨rfl, S4.out.wr⟩
theorem cmp28_any {w0 : World} (b d : Nat) (HT : TermC d) (l : List UInt8) (p n : ByteArray) (N : Int) (q : Option Addr) (c : Nat) (kids : List Tm) (w : World) (h : Cx w0 b l w) (hk : KidsC w0 d (.slice q kids.length c) kids) (hw : ∀ x ∈ kids, WfT d x) (hlen : kids.length = 2 ∨ kids.length = 3) (hc : kids.length ≤ c)
 (hl : l.length + (cmpT 28 n N (kids.map fun x => (x, txt d x))).length ≤ 1000000000) :
 Calls Tryz.prog 143 #[wp b, tv 28 p n N (.slice q kids.length c)] w (Tells w0 b l (cmpT 28 n N (kids.map fun x => (x, txt d x))) w) := by
 have h1 : RowKit.Hid (∀ W, Cx w0 b l W → Calls Tryz.prog 198 #[wp b, tv 28 p n N (.slice q kids.length c)] W (Tells w0 b l (cmpT 28 n N (kids.map fun x => (x, txt d x))) W)) := Hd fun W hW => by
  match kids, hlen, hk, hw, hl, hc with
  | [A, C], _, hk, hw, hl, hc =>
   by_cases hN : N = 1
   · subst hN
     exact letR2_any b d HT l 28 p n q c A C W hW hk hw hc hl
   · exact letN2_any b d HT l 28 p n N hN q c A C W hW hk hw hc hl
  | [A, C, D], _, hk, hw, hl, hc =>
   by_cases hN : N = 1
   · subst hN
     exact letR3_any b d HT l 28 p n q c A C D W hW hk hw hc hl
   · exact letN3_any b d HT l 28 p n N hN q c A C D W hW hk hw hc hl
  | [], h, _, _, _, _ => simp at h
  | [_], h, _, _, _, _ => simp at h
  | _ :: _ :: _ :: _ :: _, h, _, _, _, _ => simp at h
 have S0 := Hd (St.start h #[.int .i64 28, .string p, .string n, .int .i64 N, .slice q kids.length c])
 have HH := Hd h
 clear h hl hw HT hk hlen
 generalize cmpT 28 n N (kids.map fun x => (x, txt d x)) = X at *
 go_enter Tryz.func143, Tryz.ntmps143
 go_wp2_with (go_at_call 198; refine (h1.out _ (HH.out.alloc _)).mono ?_; rintro e w1 ⟨rfl, k1⟩)
 go_end0
 exact ⟨rfl, Wr.first HH.out (below_alloc w _) k1⟩
theorem armsT_next : ∀ (m : Nat) (f : Bool) (R : List (List UInt8)) (x y : List UInt8), R[2 * m]? = some x → R[2 * m + 1]? = some y →
 armsT f (R.take (2 * (m + 1))) = armsT f (R.take (2 * m)) ++ ((if m = 0 ∧ f = true then [32, 119, 105, 116, 104, 32] else [32, 124, 32]) ++ (x ++ ([32, 45, 62, 32] ++ y))) := by
 intro m
 induction m with
 | zero =>
  intro f R x y h1 h2
  match R, h1, h2 with
  | a :: c :: r, h1, h2 =>
   simp at h1 h2
   subst h1 h2
   cases f <;> simp [armsT]
 | succ m ih =>
  intro f R x y h1 h2
  match R, h1, h2 with
  | a :: c :: r, h1, h2 =>
   have e1 : r[2 * m]? = some x := by
    rw [show 2 * (m + 1) = 2 * m + 1 + 1 from by omega, List.getElem?_cons_succ, List.getElem?_cons_succ] at h1
    exact h1
   have e2 : r[2 * m + 1]? = some y := by
    rw [show 2 * (m + 1) + 1 = 2 * m + 1 + 1 + 1 from by omega, List.getElem?_cons_succ, List.getElem?_cons_succ] at h2
    exact h2
   have h3 := ih false r x y e1 e2
   rw [show 2 * (m + 1 + 1) = 2 * (m + 1) + 1 + 1 from by omega, List.take_succ_cons, List.take_succ_cons, armsT, h3, show 2 * (m + 1) = 2 * m + 1 + 1 from by omega, List.take_succ_cons, List.take_succ_cons, armsT]
   simp
theorem armsT_take : ∀ (m : Nat) (f : Bool) (R : List (List UInt8)), (armsT f (R.take (2 * m))).length ≤ (armsT f R).length := by
 intro m
 induction m with
 | zero => intro f R; simp [armsT]
 | succ m ih =>
  intro f R
  match R with
  | [] => simp
  | [a] => rw [show 2 * (m + 1) = 2 * m + 1 + 1 from by omega]; simp [armsT]
  | a :: c :: r =>
   have h := ih false r
   rw [show 2 * (m + 1) = 2 * m + 1 + 1 from by omega, List.take_succ_cons, List.take_succ_cons, armsT, armsT]
   simp only [List.length_append]
   omega
theorem match_any {w0 : World} (b d : Nat) (HT : TermC d) (l : List UInt8) (k : Int) (p n : ByteArray) (N : Int) (q : Option Addr) (c : Nat) (A : Tm) (R : List Tm) (w : World) (h : Cx w0 b l w) (hk : KidsC w0 d (.slice q (A :: R).length c) (A :: R)) (hw : ∀ x ∈ A :: R, WfT d x) (hodd : R.length % 2 = 0)
 (hl : l.length + (cmpT 29 n N ((A :: R).map fun x => (x, txt d x))).length ≤ 1000000000) :
 Calls Tryz.prog 199 #[wp b, tv k p n N (.slice q (A :: R).length c)] w (Tells w0 b l (cmpT 29 n N ((A :: R).map fun x => (x, txt d x))) w) := by
 have hX : cmpT 29 n N ((A :: R).map fun x => (x, txt d x)) = [109, 97, 116, 99, 104, 32] ++ (txt d A ++ (armsT true (R.map (txt d)) ++ [32, 101, 110, 100])) := by simp [cmpT, Function.comp_def]
 rw [hX] at hl ⊢
 have HK := Hd hk
 obtain ⟨_, _, e, hmx, hr⟩ := hk
 cases e
 obtain ⟨gg, oo, kk0, pp0, nn0, NN0, ss, eq0, ha0, ht0⟩ := hr 0 A rfl
 subst eq0
 obtain ⟨qq0, ll0, cc0, rfl⟩ := term_slice ht0
 have HA0 := Hd ha0
 unfold maxLen at hmx
 have h0 := Hd (fun W g (hW : Cx w0 b (l ++ []) W) hg => add1 (w0 := w0) (b := b) ⟨#[109, 97, 116, 99, 104, 32]⟩ W g hW hg Q63)
 have h1 : RowKit.Hid (∀ W, Cx w0 b (l ++ ([] ++ [109, 97, 116, 99, 104, 32])) W → Calls Tryz.prog 75 #[wp b, tv kk0 pp0 nn0 NN0 (.slice qq0 ll0 cc0)] W (Tells w0 b (l ++ ([] ++ [109, 97, 116, 99, 104, 32])) (txt d A) W)) := Hd fun W hW => HT w0 b _ _ A W hW ht0 (hw A (by simp)) Q63
 have hE : RowKit.Hid (∀ W g, Cx w0 b (l ++ ((([] ++ [109, 97, 116, 99, 104, 32]) ++ txt d A) ++ armsT true (R.map (txt d)))) W → W.heap[g]? = some (.cells #[.string ⟨#[32, 101, 110, 100]⟩] 9 (0, 0)) → Calls Tryz.prog 99 #[wp b, .slice (some ⟨g, 0, none⟩) 1 1] W (Tells w0 b (l ++ ((([] ++ [109, 97, 116, 99, 104, 32]) ++ txt d A) ++ armsT true (R.map (txt d)))) [32, 101, 110, 100] W)) :=
  Hd fun W g hW hg => add1 (w0 := w0) (b := b) ⟨#[32, 101, 110, 100]⟩ W g hW hg Q63
 have S0 := Hd (St.start h #[.int .i64 k, .string p, .string n, .int .i64 N, .slice (some ⟨gg, oo, none⟩) (A :: R).length c])
 have HLl : RowKit.Hid ((A :: R).length = R.length + 1) := Hd rfl
 generalize hLn : (A :: R).length = L at *
 clear hLn
 have HT := Hd HT
 have HW := Hd hw
 have HL : RowKit.Hid (l.length + (((([] ++ [109, 97, 116, 99, 104, 32]) ++ txt d A)).length + (armsT true (R.map (txt d))).length) ≤ 1000000000) := Hd Q63
 have HR := Hd hr
 obtain ⟨M, hM⟩ : ∃ M, R.length = 2 * M := ⟨R.length / 2, by omega⟩
 have HM := Hd hM
 clear hM
 have hL0 : (0 : Int) < (L : Int) := by rw [HLl.out]; omega
 clear h hl hX hw hr ha0 ht0 hodd
 go_enter Tryz.func199, Tryz.ntmps199
 go_wp2_with (go_at_call 99; refine (h0.out _ _ (S0.out.cx.alloc _) (new_at _ _ _ _ (by simp))).mono ?_; rintro e w1 ⟨rfl, k1⟩; have S1 := Hd (S0.out.next (below_alloc _ _) k1); have m1 := S1.out.bx; obtain ⟨b10, b11, b12, b13, b14⟩ := hb5 m1; clear k1 m1; obtain ⟨x10, x11, x12, x13, x14⟩ := HA0.out.below S1.out.cx.bel HA0.out.lt; simp only [Nat.zero_mul, Nat.one_mul, Nat.add_zero] at x10 x11 x12 x13 x14)
 go_wp2_with (go_at_call 75; refine (h1.out _ S1.out.cx).mono ?_; rintro e w2 ⟨rfl, k1⟩; have S2 := Hd (S1.out.next (Below.refl _ _) k1); have m1 := S2.out.bx; obtain ⟨b20, b21, b22, b23, b24⟩ := hb5 m1; clear k1 m1)
 go_loopw [4, 5] (fun u i wr => ∃ (m j : Nat), j = 2 * m + 1 ∧ i = .int .i64 j ∧ m ≤ M ∧ u = .string (if m = 0 then ⟨#[32, 119, 105, 116, 104, 32]⟩ else ⟨#[32, 124, 32]⟩) ∧ St w0 b l w #[.int .i64 k, .string p, .string n, .int .i64 N, .slice (some ⟨gg, oo, none⟩) L c] ((([] ++ [109, 97, 116, 99, 104, 32]) ++ txt d A) ++ armsT true ((R.take (2 * m)).map (txt d))) wr) (fun _ i _ => 2 * M + 2 - (intOf i).toNat)
 case atStart => exact ⟨0, 1, rfl, rfl, Nat.zero_le _, rfl, by simpa [armsT] using S2.out⟩
 case round =>
  obtain ⟨m, j, hj, rfl, hm, rfl, hS⟩ := hrel
  have S3 := Hd hS
  have m1 := hS.bx
  obtain ⟨b30, b31, b32, b33, b34⟩ := hb5 m1
  clear hS m1
  by_cases hlt : m < M
  · have hji : (j : Int) < (L : Int) := by rw [HLl.out, HM.out]; omega
    have hx : (A :: R)[j]? = some (R[2 * m]'Q67) := by rw [hj, List.getElem?_cons_succ]; exact List.getElem?_eq_getElem Q67
    have hy : (A :: R)[j + 1]? = some (R[2 * m + 1]'Q67) := by rw [hj, List.getElem?_cons_succ]; exact List.getElem?_eq_getElem Q67
    have hx2 : (R.map (txt d))[2 * m]? = some (txt d (R[2 * m]'Q67)) := by rw [List.getElem?_map, List.getElem?_eq_getElem Q67]; rfl
    have hy2 : (R.map (txt d))[2 * m + 1]? = some (txt d (R[2 * m + 1]'Q67)) := by rw [List.getElem?_map, List.getElem?_eq_getElem Q67]; rfl
    have hn := armsT_next m true (R.map (txt d)) _ _ hx2 hy2
    have hlb := armsT_take (m + 1) true (R.map (txt d))
    rw [hn] at hlb
    simp only [← List.map_take, and_true] at hn hlb
    simp only [List.length_append] at hlb
    generalize (R[2 * m]'Q67) = X at *
    generalize (R[2 * m + 1]'Q67) = Y at *
    obtain ⟨_, _, kk1, pp1, nn1, NN1, ss1, eq1, ha1, ht1⟩ := HR.out j X hx
    cases eq1
    obtain ⟨qq1, ll1, cc1, rfl⟩ := term_slice ht1
    obtain ⟨_, _, kk2, pp2, nn2, NN2, ss2, eq2, ha2, ht2⟩ := HR.out (j + 1) Y hy
    cases eq2
    obtain ⟨qq2, ll2, cc2, rfl⟩ := term_slice ht2
    have HA1 := Hd ha1
    have HA2 := Hd ha2
    have HN := Hd hn
    have hLb := HL.out
    have hwx := HW.out X (List.mem_of_getElem? hx)
    have hwy := HW.out Y (List.mem_of_getElem? hy)
    generalize hsep : (if m = 0 then (⟨#[32, 119, 105, 116, 104, 32]⟩ : ByteArray) else ⟨#[32, 124, 32]⟩) = sep at *
    have hsl : (if m = 0 then [32, 119, 105, 116, 104, 32] else [32, 124, 32]) = sep.data.toList := by rw [← hsep]; split <;> rfl
    rw [hsl] at hlb
    rw [hsl] at HN
    generalize (([] ++ [109, 97, 116, 99, 104, 32]) ++ txt d A) = E0 at *
    generalize armsT true ((R.take (2 * m)).map (txt d)) = E at *
    have h3 := Hd (fun W g (hW : Cx w0 b (l ++ (E0 ++ E)) W) hg => add1 (w0 := w0) (b := b) sep W g hW hg (by simp only [List.length_append]; omega))
    have h4 : RowKit.Hid (∀ W, Cx w0 b (l ++ ((E0 ++ E) ++ sep.data.toList)) W → Calls Tryz.prog 75 #[wp b, tv kk1 pp1 nn1 NN1 (.slice qq1 ll1 cc1)] W (Tells w0 b (l ++ ((E0 ++ E) ++ sep.data.toList)) (txt d X) W)) := Hd fun W hW => HT.out w0 b _ _ X W hW ht1 hwx (by simp only [List.length_append]; omega)
    have h5 := Hd (fun W g (hW : Cx w0 b (l ++ (((E0 ++ E) ++ sep.data.toList) ++ txt d X)) W) hg => add1 (w0 := w0) (b := b) ⟨#[32, 45, 62, 32]⟩ W g hW hg (by simp only [List.length_append, List.length_cons, List.length_nil] at hlb ⊢; omega))
    have h6 : RowKit.Hid (∀ W, Cx w0 b (l ++ ((((E0 ++ E) ++ sep.data.toList) ++ txt d X) ++ [32, 45, 62, 32])) W → Calls Tryz.prog 75 #[wp b, tv kk2 pp2 nn2 NN2 (.slice qq2 ll2 cc2)] W (Tells w0 b (l ++ ((((E0 ++ E) ++ sep.data.toList) ++ txt d X) ++ [32, 45, 62, 32])) (txt d Y) W)) := Hd fun W hW => HT.out w0 b _ _ Y W hW ht2 hwy (by simp only [List.length_append, List.length_cons, List.length_nil] at hlb ⊢; omega)
    have hji2 : (j : Int) + 1 < (L : Int) := by rw [HLl.out, HM.out]; omega
    have HJ := Hd hj
    clear hn hlb hx hy hx2 hy2 ha1 ha2 ht1 ht2 hLb hwx hwy hsl hj
    go_wp2_with (go_at_call 99; refine (h3.out _ _ (S3.out.cx.alloc _) (new_at _ _ _ _ (by simp))).mono ?_; rintro e w4 ⟨rfl, k1⟩; have S4 := Hd (S3.out.next (below_alloc _ _) k1); have m1 := S4.out.bx; obtain ⟨b40, b41, b42, b43, b44⟩ := hb5 m1; clear k1 m1; obtain ⟨x40, x41, x42, x43, x44⟩ := HA1.out.below S4.out.cx.bel HA1.out.lt)
    go_wp2_with (go_at_call 75; refine (h4.out _ S4.out.cx).mono ?_; rintro e w5 ⟨rfl, k1⟩; have S5 := Hd (S4.out.next (Below.refl _ _) k1); have m1 := S5.out.bx; obtain ⟨b50, b51, b52, b53, b54⟩ := hb5 m1; clear k1 m1)
    go_wp2_with (go_at_call 99; refine (h5.out _ _ (S5.out.cx.alloc _) (new_at _ _ _ _ (by simp))).mono ?_; rintro e w6 ⟨rfl, k1⟩; have S6 := Hd (S5.out.next (below_alloc _ _) k1); have m1 := S6.out.bx; obtain ⟨b60, b61, b62, b63, b64⟩ := hb5 m1; clear k1 m1; obtain ⟨x60, x61, x62, x63, x64⟩ := HA2.out.below S6.out.cx.bel HA2.out.lt)
    go_wp2_with (go_at_call 75; refine (h6.out _ S6.out.cx).mono ?_; rintro e w7 ⟨rfl, k1⟩; have S7 := Hd (S6.out.next (Below.refl _ _) k1); clear k1)
    exact ⟨⟨m + 1, j + 2, by have := HJ.out; omega, by go_num, by omega, by simp, by
     have := S7.out
     rw [HN.out]
     simpa only [List.append_assoc] using this⟩, by have := HJ.out; simp [intOf]; omega⟩
  · have hji : ¬ (j : Int) < (L : Int) := by rw [HLl.out, HM.out]; omega
    have hj' := hji
    rw [HLl.out, HM.out] at hj'
    obtain rfl : m = M := by omega
    clear hj hj'
    generalize (if m = 0 then (⟨#[32, 119, 105, 116, 104, 32]⟩ : ByteArray) else ⟨#[32, 124, 32]⟩) = sep at *
    rw [← HM.out, List.take_length] at S3
    go_wp2_with (go_at_call 99; refine (hE.out _ _ (S3.out.cx.alloc _) (new_at _ _ _ _ (by simp))).mono ?_; rintro e w4 ⟨rfl, k1⟩; have S4 := Hd (S3.out.next (below_alloc _ _) k1); clear k1)
    go_end0
    exact ⟨rfl, by simpa only [List.nil_append, List.append_assoc, List.cons_append] using S4.out.wr⟩
theorem St.grow {w0 w wi wj : World} {b : Nat} {l x : List UInt8} {cs : Array Value} (h : St w0 b l w cs x wi) (hb : Below wi.heap.size wi wj) : St w0 b l w cs x wj :=
 ⟨h.cx.grow hb, h.wr.grow (Nat.le_trans h.hz h.wr.2.1.size) hb, by rw [hb.block _ (hb_lt h.bx)]; exact h.bx, h.hb, h.hz⟩
theorem St.pack {w0 w wi : World} {b : Nat} {l x : List UInt8} {k : Int} {p n : ByteArray} {N : Int} {s : Value} (h : St w0 b l w #[.int .i64 k, .string p, .string n, .int .i64 N, s] x wi) {g o : Nat} {k1 : Int} {p1 n1 : ByteArray} {N1 : Int} {s1 : Value} (ha : TAt w0 g o k1 p1 n1 N1 s1) :
 RowKit.Hid (∃ x, St w0 b l w #[.int .i64 k, .string p, .string n, .int .i64 N, s] x wi) ∧ wi.cell? ⟨w.heap.size, 4, none⟩ = some s ∧ wi.cell? ⟨g, o, none⟩ = some (.int .i64 k1) ∧ wi.cell? ⟨g, o + 1, none⟩ = some (.string p1) ∧ wi.cell? ⟨g, o + 2, none⟩ = some (.string n1) ∧ wi.cell? ⟨g, o + 3, none⟩ = some (.int .i64 N1) ∧ wi.cell? ⟨g, o + 4, none⟩ = some s1 := by
 obtain ⟨x0, x1, x2, x3, x4⟩ := ha.below h.cx.bel ha.lt
 exact ⟨Hd ⟨x, h⟩, hb_at h.bx 4 rfl, x0, x1, x2, x3, x4⟩
theorem drewN1 (w : World) : Below w.heap.size w (w.drewN 1) := below_drewN (Below.refl _ _) 1
theorem cmp3_any {w0 : World} (b d : Nat) (HT : TermC d) (l : List UInt8) (p n : ByteArray) (N : Int) (q : Option Addr) (c : Nat) (A C : Tm) (w : World) (h : Cx w0 b l w) (hk : KidsC w0 d (.slice q [A, C].length c) [A, C]) (hw : ∀ x ∈ [A, C], WfT d x) 
 (hl : l.length + (cmpT 3 n N ([A, C].map fun x => (x, txt d x))).length ≤ 1000000000) :
 Calls Tryz.prog 143 #[wp b, tv 3 p n N (.slice q [A, C].length c)] w (Tells w0 b l (cmpT 3 n N ([A, C].map fun x => (x, txt d x))) w) := by
 obtain ⟨_, _, e, _, hr⟩ := hk
 cases e
 obtain ⟨gg, oo, kk0, pp0, nn0, NN0, a4, eq0, ha0, ht0⟩ := hr 0 A rfl
 subst eq0
 obtain ⟨gg1, oo1, kk1, pp1, nn1, NN1, c4, eq1, ha1, ht1⟩ := hr 1 C rfl
 cases eq1
 obtain ⟨dm, z0, z1, z2, z3, qq0, cc0, ks0, ed, rfl, e0, _, _, _, _⟩ := ht0.open
 simp only [tv, Value.agg.injEq, Array.mk.injEq, List.cons.injEq, Value.int.injEq, Value.string.injEq, true_and, and_true] at e0
 obtain ⟨rfl, rfl, rfl, rfl, rfl⟩ := e0
 obtain ⟨dn, y0, y1, y2, y3, qq1, cc1, ks1, en, rfl, e1, _, _, _, _⟩ := ht1.open
 simp only [tv, Value.agg.injEq, Array.mk.injEq, List.cons.injEq, Value.int.injEq, Value.string.injEq, true_and, and_true] at e1
 obtain ⟨rfl, rfl, rfl, rfl, rfl⟩ := e1
 simp only [Nat.zero_mul, Nat.one_mul, Nat.add_zero] at ha0 ha1
 have HA0 := Hd ha0
 have HA1 := Hd ha1
 clear ed en
 have hX : cmpT 3 n N ([(.mk kk0 pp0 nn0 NN0 ks0 : Tm), .mk kk1 pp1 nn1 NN1 ks1].map fun x => (x, txt d x)) = ((([] ++ withinT (kk0 == 3) (txt d (.mk kk0 pp0 nn0 NN0 ks0))) ++ [32, 45, 62, 32]) ++ txt d (.mk kk1 pp1 nn1 NN1 ks1)) := by simp [cmpT, kdM]
 rw [hX] at hl ⊢
 have h0 : RowKit.Hid (∀ W, Cx w0 b (l ++ []) W → Calls Tryz.prog 196 #[wp b, tv kk0 pp0 nn0 NN0 (.slice qq0 ks0.length cc0), .bool (kk0 == 3)] W (Tells w0 b (l ++ []) (withinT (kk0 == 3) (txt d (.mk kk0 pp0 nn0 NN0 ks0))) W)) := Hd fun W hW => within_any b d HT _ (kk0 == 3) _ _ W hW ht0 (hw _ (by simp)) Q63
 have h1 := Hd (fun W g (hW : Cx w0 b (l ++ ([] ++ withinT (kk0 == 3) (txt d (.mk kk0 pp0 nn0 NN0 ks0)))) W) hg => add1 (w0 := w0) (b := b) ⟨#[32, 45, 62, 32]⟩ W g hW hg Q63)
 have h2 : RowKit.Hid (∀ W, Cx w0 b (l ++ (([] ++ withinT (kk0 == 3) (txt d (.mk kk0 pp0 nn0 NN0 ks0))) ++ [32, 45, 62, 32])) W → Calls Tryz.prog 75 #[wp b, tv kk1 pp1 nn1 NN1 (.slice qq1 ks1.length cc1)] W (Tells w0 b (l ++ (([] ++ withinT (kk0 == 3) (txt d (.mk kk0 pp0 nn0 NN0 ks0))) ++ [32, 45, 62, 32])) (txt d (.mk kk1 pp1 nn1 NN1 ks1)) W)) := Hd fun W hW => HT w0 b _ _ _ W hW ht1 (hw _ (by simp)) Q63
 have S0 := Hd (St.start h #[.int .i64 3, .string p, .string n, .int .i64 N, .slice (some ⟨gg, oo, none⟩) [(.mk kk0 pp0 nn0 NN0 ks0 : Tm), .mk kk1 pp1 nn1 NN1 ks1].length c])
 clear h hl hX hw HT hr ha0 ht0 ha1 ht1
 generalize withinT (kk0 == 3) (txt d (.mk kk0 pp0 nn0 NN0 ks0)) = T0 at *
 generalize txt d (.mk kk1 pp1 nn1 NN1 ks1) = T1 at *
 go_enter Tryz.func143, Tryz.ntmps143
 go_upto_region 3 with (fail)
 refine wp_region_held_drew (S := (fun w' => RowKit.Hid (∃ x, St w0 b l w #[.int .i64 3, .string p, .string n, .int .i64 N, .slice (some ⟨gg, oo, none⟩) [(.mk kk0 pp0 nn0 NN0 ks0 : Tm), .mk kk1 pp1 nn1 NN1 ks1].length c] x w') ∧ w'.cell? ⟨w.heap.size, 4, none⟩ = some (.slice (some ⟨gg, oo, none⟩) [(.mk kk0 pp0 nn0 NN0 ks0 : Tm), .mk kk1 pp1 nn1 NN1 ks1].length c) ∧ w'.cell? ⟨gg, oo, none⟩ = some (.int .i64 kk0) ∧ w'.cell? ⟨gg, oo + 1, none⟩ = some (.string pp0) ∧ w'.cell? ⟨gg, oo + 2, none⟩ = some (.string nn0) ∧ w'.cell? ⟨gg, oo + 3, none⟩ = some (.int .i64 NN0) ∧ w'.cell? ⟨gg, oo + 4, none⟩ = some (.slice qq0 ks0.length cc0))) Q70 (by exact (S0.out.grow (drewN1 _)).pack HA0.out) (fun hHeld => ?_)
 refine tk 0 8 ?_
 refine tk 1 9 ?_
 refine tk 2 10 ?_
 refine tk 3 11 ?_
 refine tk 4 12 ?_
 refine tk 5 13 ?_
 refine tk 6 14 ?_
 refine tk 7 15 ?_
 refine tk 8 16 ?_
 refine tk 9 17 ?_
 refine tk 10 18 ?_
 refine wpAnyH_ready (rs := [11]) Q70 (by simp) ?_
 refine AllReadyH.cons (o := ⟨some 19, _, _, _, _, _⟩) rfl (fun K hK => ?_) AllReadyH.nil
 go_simp
 refine (h0.out _ (S0.out.grow (drewN1 _)).cx).mono ?_; rintro e w1 ⟨rfl, k1⟩; have S1 := Hd (S0.out.next (drewN1 _) k1); clear k1; have hP := S1.out.pack HA0.out
 go_wp2_with fail
 refine hK.out _ _ (by exact hP) (fun hNew => ?_)
 clear hK K
 have hHeld := hNew
 try simp only [Act.put, List.setIfInBounds_toArray, List.set_cons_zero, List.set_cons_succ]
 refine wpAnyH_done Q70 ?_ _
 clear hHeld hP
 have m1 := S1.out.bx
 obtain ⟨b10, b11, b12, b13, b14⟩ := hb5 m1
 clear m1
 go_wp2_with (go_at_call 99; refine (h1.out _ _ (S1.out.cx.alloc _) (new_at _ _ _ _ (by simp))).mono ?_; rintro e w2 ⟨rfl, k1⟩; have S2 := Hd (S1.out.next (below_alloc _ _) k1); have m1 := S2.out.bx; obtain ⟨b20, b21, b22, b23, b24⟩ := hb5 m1; clear m1; clear k1; obtain ⟨x20, x21, x22, x23, x24⟩ := HA1.out.below S2.out.cx.bel HA1.out.lt)
 go_wp2_with (go_at_call 75; refine (h2.out _ S2.out.cx).mono ?_; rintro e w3 ⟨rfl, k1⟩; have S3 := Hd (S2.out.next (Below.refl _ _) k1); clear k1)
 go_end0
 exact ⟨rfl, S3.out.wr⟩
end Go.Proofs.YtmkjalnlldpdcaaGreatDoor
