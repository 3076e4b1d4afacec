/- Texts in a row: Wp Wo Wq Wr. -/
import Derived.Test.YtmkjalnlldpdcaaGreatDoorZA14
import Derived.Test.YtmkjalnlldpdcaaGreatDoorZA11
import Derived.Test.YtmkjalnlldpdcaaGreatDoorZA12
/- term: all but names -/
namespace Go.Proofs.YtmkjalnlldpdcaaGreatDoor
open Go.RowKit
set_option linter.unusedSimpArgs false
set_option linter.unusedVariables false
set_option maxHeartbeats 8000000 in
set_option maxRecDepth 100000 in
theorem var_told {w0 : World} (b d : Nat) (HT : TermC d) (l : List UInt8) (p n : ByteArray) (N : Int) (q : Option Addr) (c : Nat) (kids : List Tm) (w : World) (h : Cx w0 b l w) (hk : KidsC w0 d (.slice q kids.length c) kids) (hw : ∀ x ∈ kids, WfT d x) (hr : RightT ⟨3, n, 0⟩) (hs : n.size ≤ 100000)
    (hl : l.length + (tellT ⟨3, n, 0⟩).length ≤ 1000000000) :
    Calls Tryz.prog 75 #[wp b, tv 1 p n N (.slice q kids.length c)] w (Tells w0 b l (tellT ⟨3, n, 0⟩) w) := by
  have h1 := Lib.hid (fun W hW => variable_any (w0 := w0) b l n W hW hr (by omega) hl)
  have HH := Lib.hid h
  clear h hl hk hw HT hr
  generalize tellT ⟨3, n, 0⟩ = T at *
  go_enter Tryz.func75, Tryz.ntmps75
  go_wp2_with (go_at_call 140; refine (h1.out _ (HH.out.alloc _)).mono ?_; rintro e w1 ⟨rfl, k1⟩)
  go_end0
  exact ⟨rfl, Wr.first HH.out (below_alloc w _) k1⟩
set_option maxHeartbeats 8000000 in
set_option maxRecDepth 100000 in
theorem any_told {w0 : World} (b d : Nat) (HT : TermC d) (l : List UInt8) (p n : ByteArray) (N : Int) (q : Option Addr) (c : Nat) (kids : List Tm) (w : World) (h : Cx w0 b l w) (hk : KidsC w0 d (.slice q kids.length c) kids) (hw : ∀ x ∈ kids, WfT d x)
    (hl : l.length + ([95]).length ≤ 1000000000) :
    Calls Tryz.prog 75 #[wp b, tv 11 p n N (.slice q kids.length c)] w (Tells w0 b l ([95]) w) := by
  have h1 := Lib.hid (fun W g hW hg => add1 (w0 := w0) (b := b) (l := l) ⟨#[95]⟩ W g hW hg (by simp at hl ⊢; omega))
  have HH := Lib.hid h
  clear h hl hk hw HT
  go_enter Tryz.func75, Tryz.ntmps75
  go_wp2_with (go_at_call 99; refine (h1.out _ _ ((HH.out.alloc _).alloc _) (new_at _ _ _ _ (by simp))).mono ?_; rintro e w1 ⟨rfl, k1⟩)
  go_end0
  exact ⟨rfl, Wr.first HH.out (below_two w _ _) k1⟩
set_option maxHeartbeats 8000000 in
set_option maxRecDepth 100000 in
theorem int13_told {w0 : World} (b d : Nat) (HT : TermC d) (l : List UInt8) (p n : ByteArray) (N : Int) (q : Option Addr) (c : Nat) (kids : List Tm) (w : World) (h : Cx w0 b l w) (hk : KidsC w0 d (.slice q kids.length c) kids) (hw : ∀ x ∈ kids, WfT d x) (hr : RightT ⟨4, ⟨#[]⟩, N⟩) (hN : -9223372036854775808 ≤ N ∧ N ≤ 9223372036854775807)
    (hl : l.length + (tellT ⟨4, ⟨#[]⟩, N⟩).length ≤ 1000000000) :
    Calls Tryz.prog 75 #[wp b, tv 13 p n N (.slice q kids.length c)] w (Tells w0 b l (tellT ⟨4, ⟨#[]⟩, N⟩) w) := by
  have h1 : RowKit.Hid (∀ W, Cx w0 b l W → Calls Tryz.prog 141 #[wp b, .agg #[.int .i64 4, .string ⟨#[]⟩, .int .i64 N, .int .i64 0]] W (Tells w0 b l (tellT ⟨4, ⟨#[]⟩, N⟩) W)) := Lib.hid (fun W hW => token_any b l ⟨4, ⟨#[]⟩, N⟩ 0 W hW hr hN (by show 0 ≤ 1000000; decide) hl)
  have HH := Lib.hid h
  clear h hl hk hw HT hr
  generalize tellT ⟨4, ⟨#[]⟩, N⟩ = T at *
  go_enter Tryz.func75, Tryz.ntmps75
  go_wp2_with (go_at_call 141; refine (h1.out _ (HH.out.alloc _)).mono ?_; rintro e w1 ⟨rfl, k1⟩)
  go_end0
  exact ⟨rfl, Wr.first HH.out (below_alloc w _) k1⟩
set_option maxHeartbeats 8000000 in
set_option maxRecDepth 100000 in
theorem int22_told {w0 : World} (b d : Nat) (HT : TermC d) (l : List UInt8) (p n : ByteArray) (N : Int) (q : Option Addr) (c : Nat) (kids : List Tm) (w : World) (h : Cx w0 b l w) (hk : KidsC w0 d (.slice q kids.length c) kids) (hw : ∀ x ∈ kids, WfT d x) (hr : RightT ⟨4, ⟨#[]⟩, N⟩) (hN : -9223372036854775808 ≤ N ∧ N ≤ 9223372036854775807)
    (hl : l.length + (tellT ⟨4, ⟨#[]⟩, N⟩).length ≤ 1000000000) :
    Calls Tryz.prog 75 #[wp b, tv 22 p n N (.slice q kids.length c)] w (Tells w0 b l (tellT ⟨4, ⟨#[]⟩, N⟩) w) := by
  have h1 : RowKit.Hid (∀ W, Cx w0 b l W → Calls Tryz.prog 141 #[wp b, .agg #[.int .i64 4, .string ⟨#[]⟩, .int .i64 N, .int .i64 0]] W (Tells w0 b l (tellT ⟨4, ⟨#[]⟩, N⟩) W)) := Lib.hid (fun W hW => token_any b l ⟨4, ⟨#[]⟩, N⟩ 0 W hW hr hN (by show 0 ≤ 1000000; decide) hl)
  have HH := Lib.hid h
  clear h hl hk hw HT hr
  generalize tellT ⟨4, ⟨#[]⟩, N⟩ = T at *
  go_enter Tryz.func75, Tryz.ntmps75
  go_wp2_with (go_at_call 141; refine (h1.out _ (HH.out.alloc _)).mono ?_; rintro e w1 ⟨rfl, k1⟩)
  go_end0
  exact ⟨rfl, Wr.first HH.out (below_alloc w _) k1⟩
set_option maxHeartbeats 8000000 in
set_option maxRecDepth 100000 in
theorem text14_told {w0 : World} (b d : Nat) (HT : TermC d) (l : List UInt8) (p n : ByteArray) (N : Int) (q : Option Addr) (c : Nat) (kids : List Tm) (w : World) (h : Cx w0 b l w) (hk : KidsC w0 d (.slice q kids.length c) kids) (hw : ∀ x ∈ kids, WfT d x) (hr : RightT ⟨5, n, 0⟩) (hs : n.size ≤ 100000)
    (hl : l.length + (tellT ⟨5, n, 0⟩).length ≤ 1000000000) :
    Calls Tryz.prog 75 #[wp b, tv 14 p n N (.slice q kids.length c)] w (Tells w0 b l (tellT ⟨5, n, 0⟩) w) := by
  have h1 : RowKit.Hid (∀ W, Cx w0 b l W → Calls Tryz.prog 141 #[wp b, .agg #[.int .i64 5, .string n, .int .i64 0, .int .i64 0]] W (Tells w0 b l (tellT ⟨5, n, 0⟩) W)) := Lib.hid (fun W hW => token_any b l ⟨5, n, 0⟩ 0 W hW hr ⟨by show (-9223372036854775808 : Int) ≤ 0; decide, by show (0 : Int) ≤ 9223372036854775807; decide⟩ (by show n.size ≤ 1000000; omega) hl)
  have HH := Lib.hid h
  clear h hl hk hw HT hr
  generalize tellT ⟨5, n, 0⟩ = T at *
  go_enter Tryz.func75, Tryz.ntmps75
  go_wp2_with (go_at_call 141; refine (h1.out _ (HH.out.alloc _)).mono ?_; rintro e w1 ⟨rfl, k1⟩)
  go_end0
  exact ⟨rfl, Wr.first HH.out (below_alloc w _) k1⟩
set_option maxHeartbeats 8000000 in
set_option maxRecDepth 100000 in
theorem text23_told {w0 : World} (b d : Nat) (HT : TermC d) (l : List UInt8) (p n : ByteArray) (N : Int) (q : Option Addr) (c : Nat) (kids : List Tm) (w : World) (h : Cx w0 b l w) (hk : KidsC w0 d (.slice q kids.length c) kids) (hw : ∀ x ∈ kids, WfT d x) (hr : RightT ⟨5, n, 0⟩) (hs : n.size ≤ 100000)
    (hl : l.length + (tellT ⟨5, n, 0⟩).length ≤ 1000000000) :
    Calls Tryz.prog 75 #[wp b, tv 23 p n N (.slice q kids.length c)] w (Tells w0 b l (tellT ⟨5, n, 0⟩) w) := by
  have h1 : RowKit.Hid (∀ W, Cx w0 b l W → Calls Tryz.prog 141 #[wp b, .agg #[.int .i64 5, .string n, .int .i64 0, .int .i64 0]] W (Tells w0 b l (tellT ⟨5, n, 0⟩) W)) := Lib.hid (fun W hW => token_any b l ⟨5, n, 0⟩ 0 W hW hr ⟨by show (-9223372036854775808 : Int) ≤ 0; decide, by show (0 : Int) ≤ 9223372036854775807; decide⟩ (by show n.size ≤ 1000000; omega) hl)
  have HH := Lib.hid h
  clear h hl hk hw HT hr
  generalize tellT ⟨5, n, 0⟩ = T at *
  go_enter Tryz.func75, Tryz.ntmps75
  go_wp2_with (go_at_call 141; refine (h1.out _ (HH.out.alloc _)).mono ?_; rintro e w1 ⟨rfl, k1⟩)
  go_end0
  exact ⟨rfl, Wr.first HH.out (below_alloc w _) k1⟩
set_option maxHeartbeats 8000000 in
set_option maxRecDepth 100000 in
theorem tup4_told {w0 : World} (b d : Nat) (HT : TermC d) (l : List UInt8) (p n : ByteArray) (N : Int) (q : Option Addr) (c : Nat) (kids : List Tm) (w : World) (h : Cx w0 b l w) (hk : KidsC w0 d (.slice q kids.length c) kids) (hw : ∀ x ∈ kids, WfT d x)
    (hl : l.length + (heldT (kids.map (txt d))).length ≤ 1000000000) :
    Calls Tryz.prog 75 #[wp b, tv 4 p n N (.slice q kids.length c)] w (Tells w0 b l (heldT (kids.map (txt d))) w) := by
  have h1 : RowKit.Hid (∀ W, Cx w0 b l W → Calls Tryz.prog 142 #[wp b, .slice q kids.length c, .func (.func 75) #[wp b] #[]] W (Tells w0 b l (heldT (kids.map (txt d))) W)) := Lib.hid fun W hW => held_any b d HT _ _ kids W hW (Row9.of hk hW.bel) hw hl
  have HH := Lib.hid h
  clear h hl hk hw HT
  generalize heldT (kids.map (txt d)) = T at *
  go_enter Tryz.func75, Tryz.ntmps75
  go_wp2_with (go_at_call 142; refine (h1.out _ (HH.out.alloc _)).mono ?_; rintro e w1 ⟨rfl, k1⟩)
  go_end0
  exact ⟨rfl, Wr.first HH.out (below_alloc w _) k1⟩
set_option maxHeartbeats 8000000 in
set_option maxRecDepth 100000 in
theorem tup16_told {w0 : World} (b d : Nat) (HT : TermC d) (l : List UInt8) (p n : ByteArray) (N : Int) (q : Option Addr) (c : Nat) (kids : List Tm) (w : World) (h : Cx w0 b l w) (hk : KidsC w0 d (.slice q kids.length c) kids) (hw : ∀ x ∈ kids, WfT d x)
    (hl : l.length + (heldT (kids.map (txt d))).length ≤ 1000000000) :
    Calls Tryz.prog 75 #[wp b, tv 16 p n N (.slice q kids.length c)] w (Tells w0 b l (heldT (kids.map (txt d))) w) := by
  have h1 : RowKit.Hid (∀ W, Cx w0 b l W → Calls Tryz.prog 142 #[wp b, .slice q kids.length c, .func (.func 75) #[wp b] #[]] W (Tells w0 b l (heldT (kids.map (txt d))) W)) := Lib.hid fun W hW => held_any b d HT _ _ kids W hW (Row9.of hk hW.bel) hw hl
  have HH := Lib.hid h
  clear h hl hk hw HT
  generalize heldT (kids.map (txt d)) = T at *
  go_enter Tryz.func75, Tryz.ntmps75
  go_wp2_with (go_at_call 142; refine (h1.out _ (HH.out.alloc _)).mono ?_; rintro e w1 ⟨rfl, k1⟩)
  go_end0
  exact ⟨rfl, Wr.first HH.out (below_alloc w _) k1⟩
set_option maxHeartbeats 8000000 in
set_option maxRecDepth 100000 in
theorem tup25_told {w0 : World} (b d : Nat) (HT : TermC d) (l : List UInt8) (p n : ByteArray) (N : Int) (q : Option Addr) (c : Nat) (kids : List Tm) (w : World) (h : Cx w0 b l w) (hk : KidsC w0 d (.slice q kids.length c) kids) (hw : ∀ x ∈ kids, WfT d x)
    (hl : l.length + (heldT (kids.map (txt d))).length ≤ 1000000000) :
    Calls Tryz.prog 75 #[wp b, tv 25 p n N (.slice q kids.length c)] w (Tells w0 b l (heldT (kids.map (txt d))) w) := by
  have h1 : RowKit.Hid (∀ W, Cx w0 b l W → Calls Tryz.prog 142 #[wp b, .slice q kids.length c, .func (.func 75) #[wp b] #[]] W (Tells w0 b l (heldT (kids.map (txt d))) W)) := Lib.hid fun W hW => held_any b d HT _ _ kids W hW (Row9.of hk hW.bel) hw hl
  have HH := Lib.hid h
  clear h hl hk hw HT
  generalize heldT (kids.map (txt d)) = T at *
  go_enter Tryz.func75, Tryz.ntmps75
  go_wp2_with (go_at_call 142; refine (h1.out _ (HH.out.alloc _)).mono ?_; rintro e w1 ⟨rfl, k1⟩)
  go_end0
  exact ⟨rfl, Wr.first HH.out (below_alloc w _) k1⟩
set_option maxHeartbeats 8000000 in
set_option maxRecDepth 100000 in
theorem cmp3_told {w0 : World} (b d : Nat) (HT : TermC d) (l : List UInt8) (p n : ByteArray) (N : Int) (q : Option Addr) (c : Nat) (kids : List Tm) (w : World) (h : Cx w0 b l w) (hk : KidsC w0 d (.slice q kids.length c) kids) (hw : ∀ x ∈ kids, WfT d x) (h143 : ∀ W, Cx w0 b l W → Calls Tryz.prog 143 #[wp b, tv 3 p n N (.slice q kids.length c)] W (Tells w0 b l (cmpT 3 n N (kids.map fun x => (x, txt d x))) W))
    (hl : l.length + (cmpT 3 n N (kids.map fun x => (x, txt d x))).length ≤ 1000000000) :
    Calls Tryz.prog 75 #[wp b, tv 3 p n N (.slice q kids.length c)] w (Tells w0 b l (cmpT 3 n N (kids.map fun x => (x, txt d x))) w) := by
  have h1 := Lib.hid h143
  have HH := Lib.hid h
  clear h hl hk hw HT h143
  generalize cmpT 3 n N (kids.map fun x => (x, txt d x)) = T at *
  go_enter Tryz.func75, Tryz.ntmps75
  go_wp2_with (go_at_call 143; refine (h1.out _ (HH.out.alloc _)).mono ?_; rintro e w1 ⟨rfl, k1⟩)
  go_end0
  exact ⟨rfl, Wr.first HH.out (below_alloc w _) k1⟩
set_option maxHeartbeats 8000000 in
set_option maxRecDepth 100000 in
theorem cmp26_told {w0 : World} (b d : Nat) (HT : TermC d) (l : List UInt8) (p n : ByteArray) (N : Int) (q : Option Addr) (c : Nat) (kids : List Tm) (w : World) (h : Cx w0 b l w) (hk : KidsC w0 d (.slice q kids.length c) kids) (hw : ∀ x ∈ kids, WfT d x) (h143 : ∀ W, Cx w0 b l W → Calls Tryz.prog 143 #[wp b, tv 26 p n N (.slice q kids.length c)] W (Tells w0 b l (cmpT 26 n N (kids.map fun x => (x, txt d x))) W))
    (hl : l.length + (cmpT 26 n N (kids.map fun x => (x, txt d x))).length ≤ 1000000000) :
    Calls Tryz.prog 75 #[wp b, tv 26 p n N (.slice q kids.length c)] w (Tells w0 b l (cmpT 26 n N (kids.map fun x => (x, txt d x))) w) := by
  have h1 := Lib.hid h143
  have HH := Lib.hid h
  clear h hl hk hw HT h143
  generalize cmpT 26 n N (kids.map fun x => (x, txt d x)) = T at *
  go_enter Tryz.func75, Tryz.ntmps75
  go_wp2_with (go_at_call 143; refine (h1.out _ (HH.out.alloc _)).mono ?_; rintro e w1 ⟨rfl, k1⟩)
  go_end0
  exact ⟨rfl, Wr.first HH.out (below_alloc w _) k1⟩
set_option maxHeartbeats 8000000 in
set_option maxRecDepth 100000 in
theorem cmp27_told {w0 : World} (b d : Nat) (HT : TermC d) (l : List UInt8) (p n : ByteArray) (N : Int) (q : Option Addr) (c : Nat) (kids : List Tm) (w : World) (h : Cx w0 b l w) (hk : KidsC w0 d (.slice q kids.length c) kids) (hw : ∀ x ∈ kids, WfT d x) (h143 : ∀ W, Cx w0 b l W → Calls Tryz.prog 143 #[wp b, tv 27 p n N (.slice q kids.length c)] W (Tells w0 b l (cmpT 27 n N (kids.map fun x => (x, txt d x))) W))
    (hl : l.length + (cmpT 27 n N (kids.map fun x => (x, txt d x))).length ≤ 1000000000) :
    Calls Tryz.prog 75 #[wp b, tv 27 p n N (.slice q kids.length c)] w (Tells w0 b l (cmpT 27 n N (kids.map fun x => (x, txt d x))) w) := by
  have h1 := Lib.hid h143
  have HH := Lib.hid h
  clear h hl hk hw HT h143
  generalize cmpT 27 n N (kids.map fun x => (x, txt d x)) = T at *
  go_enter Tryz.func75, Tryz.ntmps75
  go_wp2_with (go_at_call 143; refine (h1.out _ (HH.out.alloc _)).mono ?_; rintro e w1 ⟨rfl, k1⟩)
  go_end0
  exact ⟨rfl, Wr.first HH.out (below_alloc w _) k1⟩
set_option maxHeartbeats 8000000 in
set_option maxRecDepth 100000 in
theorem cmp28_told {w0 : World} (b d : Nat) (HT : TermC d) (l : List UInt8) (p n : ByteArray) (N : Int) (q : Option Addr) (c : Nat) (kids : List Tm) (w : World) (h : Cx w0 b l w) (hk : KidsC w0 d (.slice q kids.length c) kids) (hw : ∀ x ∈ kids, WfT d x) (h143 : ∀ W, Cx w0 b l W → Calls Tryz.prog 143 #[wp b, tv 28 p n N (.slice q kids.length c)] W (Tells w0 b l (cmpT 28 n N (kids.map fun x => (x, txt d x))) W))
    (hl : l.length + (cmpT 28 n N (kids.map fun x => (x, txt d x))).length ≤ 1000000000) :
    Calls Tryz.prog 75 #[wp b, tv 28 p n N (.slice q kids.length c)] w (Tells w0 b l (cmpT 28 n N (kids.map fun x => (x, txt d x))) w) := by
  have h1 := Lib.hid h143
  have HH := Lib.hid h
  clear h hl hk hw HT h143
  generalize cmpT 28 n N (kids.map fun x => (x, txt d x)) = T at *
  go_enter Tryz.func75, Tryz.ntmps75
  go_wp2_with (go_at_call 143; refine (h1.out _ (HH.out.alloc _)).mono ?_; rintro e w1 ⟨rfl, k1⟩)
  go_end0
  exact ⟨rfl, Wr.first HH.out (below_alloc w _) k1⟩
set_option maxHeartbeats 8000000 in
set_option maxRecDepth 100000 in
theorem cmp29_told {w0 : World} (b d : Nat) (HT : TermC d) (l : List UInt8) (p n : ByteArray) (N : Int) (q : Option Addr) (c : Nat) (kids : List Tm) (w : World) (h : Cx w0 b l w) (hk : KidsC w0 d (.slice q kids.length c) kids) (hw : ∀ x ∈ kids, WfT d x) (h143 : ∀ W, Cx w0 b l W → Calls Tryz.prog 143 #[wp b, tv 29 p n N (.slice q kids.length c)] W (Tells w0 b l (cmpT 29 n N (kids.map fun x => (x, txt d x))) W))
    (hl : l.length + (cmpT 29 n N (kids.map fun x => (x, txt d x))).length ≤ 1000000000) :
    Calls Tryz.prog 75 #[wp b, tv 29 p n N (.slice q kids.length c)] w (Tells w0 b l (cmpT 29 n N (kids.map fun x => (x, txt d x))) w) := by
  have h1 := Lib.hid h143
  have HH := Lib.hid h
  clear h hl hk hw HT h143
  generalize cmpT 29 n N (kids.map fun x => (x, txt d x)) = T at *
  go_enter Tryz.func75, Tryz.ntmps75
  go_wp2_with (go_at_call 143; refine (h1.out _ (HH.out.alloc _)).mono ?_; rintro e w1 ⟨rfl, k1⟩)
  go_end0
  exact ⟨rfl, Wr.first HH.out (below_alloc w _) k1⟩
set_option maxHeartbeats 8000000 in
set_option maxRecDepth 100000 in
theorem cmp30_told {w0 : World} (b d : Nat) (HT : TermC d) (l : List UInt8) (p n : ByteArray) (N : Int) (q : Option Addr) (c : Nat) (kids : List Tm) (w : World) (h : Cx w0 b l w) (hk : KidsC w0 d (.slice q kids.length c) kids) (hw : ∀ x ∈ kids, WfT d x) (h143 : ∀ W, Cx w0 b l W → Calls Tryz.prog 143 #[wp b, tv 30 p n N (.slice q kids.length c)] W (Tells w0 b l (cmpT 30 n N (kids.map fun x => (x, txt d x))) W))
    (hl : l.length + (cmpT 30 n N (kids.map fun x => (x, txt d x))).length ≤ 1000000000) :
    Calls Tryz.prog 75 #[wp b, tv 30 p n N (.slice q kids.length c)] w (Tells w0 b l (cmpT 30 n N (kids.map fun x => (x, txt d x))) w) := by
  have h1 := Lib.hid h143
  have HH := Lib.hid h
  clear h hl hk hw HT h143
  generalize cmpT 30 n N (kids.map fun x => (x, txt d x)) = T at *
  go_enter Tryz.func75, Tryz.ntmps75
  go_wp2_with (go_at_call 143; refine (h1.out _ (HH.out.alloc _)).mono ?_; rintro e w1 ⟨rfl, k1⟩)
  go_end0
  exact ⟨rfl, Wr.first HH.out (below_alloc w _) k1⟩
end Go.Proofs.YtmkjalnlldpdcaaGreatDoor
/- term: a name, with Kids or none -/
namespace Go.Proofs.YtmkjalnlldpdcaaGreatDoor
open Go.RowKit
set_option linter.unusedSimpArgs false
set_option linter.unusedVariables false
set_option maxHeartbeats 8000000 in
set_option maxRecDepth 100000 in
theorem con12_any {w0 : World} (b d : Nat) (HT : TermC d) (l : List UInt8) (p n : ByteArray) (N : Int) (q : Option Addr) (c : Nat) (kids : List Tm) (w : World) (h : Cx w0 b l w) (hk : KidsC w0 d (.slice q kids.length c) kids) (hw : ∀ x ∈ kids, WfT d x)
    (hl : l.length + (qualT p n ++ (if kids.length = 0 then [] else heldT (kids.map (txt d)))).length ≤ 1000000000) :
    Calls Tryz.prog 75 #[wp b, tv 12 p n N (.slice q kids.length c)] w (Tells w0 b l (qualT p n ++ (if kids.length = 0 then [] else heldT (kids.map (txt d)))) w) := by
  by_cases hp : p = ⟨#[]⟩
  · subst hp
    by_cases hke : kids.length = 0
    · have hX : qualT ⟨#[]⟩ n ++ (if kids.length = 0 then [] else heldT (kids.map (txt d))) = ([] ++ n.data.toList) := by simp [qualT, hke]
      rw [hX] at hl ⊢
      have h0 := Lib.hid (fun W g (hW : Cx w0 b (l ++ []) W) hg => add1 (w0 := w0) (b := b) n W g hW hg (by simp at hl ⊢; omega))
      have S0 := Lib.hid (St.start h #[.int .i64 12, .string ⟨#[]⟩, .string n, .int .i64 N, .slice q kids.length c])
      have hke2 : kids.length = 0 := by simpa using hke
      rw [hke2]
      rw [hke2] at S0
      clear h hl hX hw HT hk hke hke2
      go_enter Tryz.func75, Tryz.ntmps75
      go_wp2_with (go_at_call 99; refine (h0.out _ _ (S0.out.cx.alloc _) (new_at _ _ _ _ (by simp))).mono ?_; rintro e w1 ⟨rfl, k1⟩; have S1 := Lib.hid (S0.out.next (below_alloc _ _) k1); have m1 := S1.out.bx; have b10 := hb_at m1 0 rfl; have b11 := hb_at m1 1 rfl; have b12 := hb_at m1 2 rfl; have b13 := hb_at m1 3 rfl; have b14 := hb_at m1 4 rfl; clear m1; clear k1)
      go_end0
      exact ⟨rfl, S1.out.wr⟩
    · have hX : qualT ⟨#[]⟩ n ++ (if kids.length = 0 then [] else heldT (kids.map (txt d))) = (([] ++ n.data.toList) ++ heldT (kids.map (txt d))) := by simp [qualT, hke]
      rw [hX] at hl ⊢
      have h0 := Lib.hid (fun W g (hW : Cx w0 b (l ++ []) W) hg => add1 (w0 := w0) (b := b) n W g hW hg (by simp at hl ⊢; omega))
      have h1 : RowKit.Hid (∀ W, Cx w0 b (l ++ ([] ++ n.data.toList)) W → Calls Tryz.prog 142 #[wp b, .slice q kids.length c, .func (.func 75) #[wp b] #[]] W (Tells w0 b (l ++ ([] ++ n.data.toList)) (heldT (kids.map (txt d))) W)) := Lib.hid fun W hW => held_any b d HT _ _ kids W hW (Row9.of hk hW.bel) hw (by simp at hl ⊢; omega)
      have S0 := Lib.hid (St.start h #[.int .i64 12, .string ⟨#[]⟩, .string n, .int .i64 N, .slice q kids.length c])
      have hkk : ¬ (kids.length : Int) = 0 := by omega
      clear h hl hX hw HT hk hke
      generalize heldT (kids.map (txt d)) = T0 at *
      go_enter Tryz.func75, Tryz.ntmps75
      go_wp2_with (go_at_call 99; refine (h0.out _ _ (S0.out.cx.alloc _) (new_at _ _ _ _ (by simp))).mono ?_; rintro e w1 ⟨rfl, k1⟩; have S1 := Lib.hid (S0.out.next (below_alloc _ _) k1); have m1 := S1.out.bx; have b10 := hb_at m1 0 rfl; have b11 := hb_at m1 1 rfl; have b12 := hb_at m1 2 rfl; have b13 := hb_at m1 3 rfl; have b14 := hb_at m1 4 rfl; clear m1; clear k1)
      go_wp2_with (go_at_call 142; refine (h1.out _ S1.out.cx).mono ?_; rintro e w2 ⟨rfl, k1⟩; have S2 := Lib.hid (S1.out.next (Below.refl _ _) k1); clear k1)
      go_end0
      exact ⟨rfl, S2.out.wr⟩
  · have hpe : ¬ p.toList = [] := fun e => hp (toList_inj (by rw [e, ByteArray.toList_eq]))
    by_cases hke : kids.length = 0
    · have hX : qualT p n ++ (if kids.length = 0 then [] else heldT (kids.map (txt d))) = (([] ++ (p.data.toList ++ [46])) ++ n.data.toList) := by simp [qualT, hpe, hke]
      rw [hX] at hl ⊢
      have h0 := Lib.hid (fun W g (hW : Cx w0 b (l ++ []) W) hg => add2 (w0 := w0) (b := b) p ⟨#[46]⟩ W g hW hg (by simp at hl ⊢; omega))
      have h1 := Lib.hid (fun W g (hW : Cx w0 b (l ++ ([] ++ (p.data.toList ++ [46]))) W) hg => add1 (w0 := w0) (b := b) n W g hW hg (by simp at hl ⊢; omega))
      have S0 := Lib.hid (St.start h #[.int .i64 12, .string p, .string n, .int .i64 N, .slice q kids.length c])
      have hke2 : kids.length = 0 := by simpa using hke
      rw [hke2]
      rw [hke2] at S0
      clear h hl hX hw HT hk hke hke2
      have hpb : (p.toList == []) = false := by simpa using hpe
      have hpn : (p.toList != []) = true := by simpa using hpe
      have hpe2 : ¬ p.toList = (⟨#[]⟩ : ByteArray).toList := fun e => hp (toList_inj e)
      clear hp
      go_enter Tryz.func75, Tryz.ntmps75
      go_wp2_with (go_at_call 99; (with_reducible show Calls Tryz.prog 99 #[_, Value.slice _ 2 2] _ _); refine (h0.out _ _ (S0.out.cx.alloc _) (new_at _ _ _ _ (by simp))).mono ?_; rintro e w1 ⟨rfl, k1⟩; have S1 := Lib.hid (S0.out.next (below_alloc _ _) k1); have m1 := S1.out.bx; have b10 := hb_at m1 0 rfl; have b11 := hb_at m1 1 rfl; have b12 := hb_at m1 2 rfl; have b13 := hb_at m1 3 rfl; have b14 := hb_at m1 4 rfl; clear m1; clear k1)
      go_wp2_with (go_at_call 99; refine (h1.out _ _ (S1.out.cx.alloc _) (new_at _ _ _ _ (by simp))).mono ?_; rintro e w2 ⟨rfl, k1⟩; have S2 := Lib.hid (S1.out.next (below_alloc _ _) k1); have m1 := S2.out.bx; have b20 := hb_at m1 0 rfl; have b21 := hb_at m1 1 rfl; have b22 := hb_at m1 2 rfl; have b23 := hb_at m1 3 rfl; have b24 := hb_at m1 4 rfl; clear m1; clear k1)
      go_end0
      exact ⟨rfl, S2.out.wr⟩
    · have hX : qualT p n ++ (if kids.length = 0 then [] else heldT (kids.map (txt d))) = ((([] ++ (p.data.toList ++ [46])) ++ n.data.toList) ++ heldT (kids.map (txt d))) := by simp [qualT, hpe, hke]
      rw [hX] at hl ⊢
      have h0 := Lib.hid (fun W g (hW : Cx w0 b (l ++ []) W) hg => add2 (w0 := w0) (b := b) p ⟨#[46]⟩ W g hW hg (by simp at hl ⊢; omega))
      have h1 := Lib.hid (fun W g (hW : Cx w0 b (l ++ ([] ++ (p.data.toList ++ [46]))) W) hg => add1 (w0 := w0) (b := b) n W g hW hg (by simp at hl ⊢; omega))
      have h2 : RowKit.Hid (∀ W, Cx w0 b (l ++ (([] ++ (p.data.toList ++ [46])) ++ n.data.toList)) W → Calls Tryz.prog 142 #[wp b, .slice q kids.length c, .func (.func 75) #[wp b] #[]] W (Tells w0 b (l ++ (([] ++ (p.data.toList ++ [46])) ++ n.data.toList)) (heldT (kids.map (txt d))) W)) := Lib.hid fun W hW => held_any b d HT _ _ kids W hW (Row9.of hk hW.bel) hw (by simp at hl ⊢; omega)
      have S0 := Lib.hid (St.start h #[.int .i64 12, .string p, .string n, .int .i64 N, .slice q kids.length c])
      have hkk : ¬ (kids.length : Int) = 0 := by omega
      clear h hl hX hw HT hk hke
      generalize heldT (kids.map (txt d)) = T0 at *
      have hpb : (p.toList == []) = false := by simpa using hpe
      have hpn : (p.toList != []) = true := by simpa using hpe
      have hpe2 : ¬ p.toList = (⟨#[]⟩ : ByteArray).toList := fun e => hp (toList_inj e)
      clear hp
      go_enter Tryz.func75, Tryz.ntmps75
      go_wp2_with (go_at_call 99; (with_reducible show Calls Tryz.prog 99 #[_, Value.slice _ 2 2] _ _); refine (h0.out _ _ (S0.out.cx.alloc _) (new_at _ _ _ _ (by simp))).mono ?_; rintro e w1 ⟨rfl, k1⟩; have S1 := Lib.hid (S0.out.next (below_alloc _ _) k1); have m1 := S1.out.bx; have b10 := hb_at m1 0 rfl; have b11 := hb_at m1 1 rfl; have b12 := hb_at m1 2 rfl; have b13 := hb_at m1 3 rfl; have b14 := hb_at m1 4 rfl; clear m1; clear k1)
      go_wp2_with (go_at_call 99; refine (h1.out _ _ (S1.out.cx.alloc _) (new_at _ _ _ _ (by simp))).mono ?_; rintro e w2 ⟨rfl, k1⟩; have S2 := Lib.hid (S1.out.next (below_alloc _ _) k1); have m1 := S2.out.bx; have b20 := hb_at m1 0 rfl; have b21 := hb_at m1 1 rfl; have b22 := hb_at m1 2 rfl; have b23 := hb_at m1 3 rfl; have b24 := hb_at m1 4 rfl; clear m1; clear k1)
      go_wp2_with (go_at_call 142; refine (h2.out _ S2.out.cx).mono ?_; rintro e w3 ⟨rfl, k1⟩; have S3 := Lib.hid (S2.out.next (Below.refl _ _) k1); clear k1)
      go_end0
      exact ⟨rfl, S3.out.wr⟩
set_option maxHeartbeats 8000000 in
set_option maxRecDepth 100000 in
theorem con21_any {w0 : World} (b d : Nat) (HT : TermC d) (l : List UInt8) (p n : ByteArray) (N : Int) (q : Option Addr) (c : Nat) (kids : List Tm) (w : World) (h : Cx w0 b l w) (hk : KidsC w0 d (.slice q kids.length c) kids) (hw : ∀ x ∈ kids, WfT d x)
    (hl : l.length + (qualT p n ++ (if kids.length = 0 then [] else heldT (kids.map (txt d)))).length ≤ 1000000000) :
    Calls Tryz.prog 75 #[wp b, tv 21 p n N (.slice q kids.length c)] w (Tells w0 b l (qualT p n ++ (if kids.length = 0 then [] else heldT (kids.map (txt d)))) w) := by
  by_cases hp : p = ⟨#[]⟩
  · subst hp
    by_cases hke : kids.length = 0
    · have hX : qualT ⟨#[]⟩ n ++ (if kids.length = 0 then [] else heldT (kids.map (txt d))) = ([] ++ n.data.toList) := by simp [qualT, hke]
      rw [hX] at hl ⊢
      have h0 := Lib.hid (fun W g (hW : Cx w0 b (l ++ []) W) hg => add1 (w0 := w0) (b := b) n W g hW hg (by simp at hl ⊢; omega))
      have S0 := Lib.hid (St.start h #[.int .i64 21, .string ⟨#[]⟩, .string n, .int .i64 N, .slice q kids.length c])
      have hke2 : kids.length = 0 := by simpa using hke
      rw [hke2]
      rw [hke2] at S0
      clear h hl hX hw HT hk hke hke2
      go_enter Tryz.func75, Tryz.ntmps75
      go_wp2_with (go_at_call 99; refine (h0.out _ _ (S0.out.cx.alloc _) (new_at _ _ _ _ (by simp))).mono ?_; rintro e w1 ⟨rfl, k1⟩; have S1 := Lib.hid (S0.out.next (below_alloc _ _) k1); have m1 := S1.out.bx; have b10 := hb_at m1 0 rfl; have b11 := hb_at m1 1 rfl; have b12 := hb_at m1 2 rfl; have b13 := hb_at m1 3 rfl; have b14 := hb_at m1 4 rfl; clear m1; clear k1)
      go_end0
      exact ⟨rfl, S1.out.wr⟩
    · have hX : qualT ⟨#[]⟩ n ++ (if kids.length = 0 then [] else heldT (kids.map (txt d))) = (([] ++ n.data.toList) ++ heldT (kids.map (txt d))) := by simp [qualT, hke]
      rw [hX] at hl ⊢
      have h0 := Lib.hid (fun W g (hW : Cx w0 b (l ++ []) W) hg => add1 (w0 := w0) (b := b) n W g hW hg (by simp at hl ⊢; omega))
      have h1 : RowKit.Hid (∀ W, Cx w0 b (l ++ ([] ++ n.data.toList)) W → Calls Tryz.prog 142 #[wp b, .slice q kids.length c, .func (.func 75) #[wp b] #[]] W (Tells w0 b (l ++ ([] ++ n.data.toList)) (heldT (kids.map (txt d))) W)) := Lib.hid fun W hW => held_any b d HT _ _ kids W hW (Row9.of hk hW.bel) hw (by simp at hl ⊢; omega)
      have S0 := Lib.hid (St.start h #[.int .i64 21, .string ⟨#[]⟩, .string n, .int .i64 N, .slice q kids.length c])
      have hkk : ¬ (kids.length : Int) = 0 := by omega
      clear h hl hX hw HT hk hke
      generalize heldT (kids.map (txt d)) = T0 at *
      go_enter Tryz.func75, Tryz.ntmps75
      go_wp2_with (go_at_call 99; refine (h0.out _ _ (S0.out.cx.alloc _) (new_at _ _ _ _ (by simp))).mono ?_; rintro e w1 ⟨rfl, k1⟩; have S1 := Lib.hid (S0.out.next (below_alloc _ _) k1); have m1 := S1.out.bx; have b10 := hb_at m1 0 rfl; have b11 := hb_at m1 1 rfl; have b12 := hb_at m1 2 rfl; have b13 := hb_at m1 3 rfl; have b14 := hb_at m1 4 rfl; clear m1; clear k1)
      go_wp2_with (go_at_call 142; refine (h1.out _ S1.out.cx).mono ?_; rintro e w2 ⟨rfl, k1⟩; have S2 := Lib.hid (S1.out.next (Below.refl _ _) k1); clear k1)
      go_end0
      exact ⟨rfl, S2.out.wr⟩
  · have hpe : ¬ p.toList = [] := fun e => hp (toList_inj (by rw [e, ByteArray.toList_eq]))
    by_cases hke : kids.length = 0
    · have hX : qualT p n ++ (if kids.length = 0 then [] else heldT (kids.map (txt d))) = (([] ++ (p.data.toList ++ [46])) ++ n.data.toList) := by simp [qualT, hpe, hke]
      rw [hX] at hl ⊢
      have h0 := Lib.hid (fun W g (hW : Cx w0 b (l ++ []) W) hg => add2 (w0 := w0) (b := b) p ⟨#[46]⟩ W g hW hg (by simp at hl ⊢; omega))
      have h1 := Lib.hid (fun W g (hW : Cx w0 b (l ++ ([] ++ (p.data.toList ++ [46]))) W) hg => add1 (w0 := w0) (b := b) n W g hW hg (by simp at hl ⊢; omega))
      have S0 := Lib.hid (St.start h #[.int .i64 21, .string p, .string n, .int .i64 N, .slice q kids.length c])
      have hke2 : kids.length = 0 := by simpa using hke
      rw [hke2]
      rw [hke2] at S0
      clear h hl hX hw HT hk hke hke2
      have hpb : (p.toList == []) = false := by simpa using hpe
      have hpn : (p.toList != []) = true := by simpa using hpe
      have hpe2 : ¬ p.toList = (⟨#[]⟩ : ByteArray).toList := fun e => hp (toList_inj e)
      clear hp
      go_enter Tryz.func75, Tryz.ntmps75
      go_wp2_with (go_at_call 99; (with_reducible show Calls Tryz.prog 99 #[_, Value.slice _ 2 2] _ _); refine (h0.out _ _ (S0.out.cx.alloc _) (new_at _ _ _ _ (by simp))).mono ?_; rintro e w1 ⟨rfl, k1⟩; have S1 := Lib.hid (S0.out.next (below_alloc _ _) k1); have m1 := S1.out.bx; have b10 := hb_at m1 0 rfl; have b11 := hb_at m1 1 rfl; have b12 := hb_at m1 2 rfl; have b13 := hb_at m1 3 rfl; have b14 := hb_at m1 4 rfl; clear m1; clear k1)
      go_wp2_with (go_at_call 99; refine (h1.out _ _ (S1.out.cx.alloc _) (new_at _ _ _ _ (by simp))).mono ?_; rintro e w2 ⟨rfl, k1⟩; have S2 := Lib.hid (S1.out.next (below_alloc _ _) k1); have m1 := S2.out.bx; have b20 := hb_at m1 0 rfl; have b21 := hb_at m1 1 rfl; have b22 := hb_at m1 2 rfl; have b23 := hb_at m1 3 rfl; have b24 := hb_at m1 4 rfl; clear m1; clear k1)
      go_end0
      exact ⟨rfl, S2.out.wr⟩
    · have hX : qualT p n ++ (if kids.length = 0 then [] else heldT (kids.map (txt d))) = ((([] ++ (p.data.toList ++ [46])) ++ n.data.toList) ++ heldT (kids.map (txt d))) := by simp [qualT, hpe, hke]
      rw [hX] at hl ⊢
      have h0 := Lib.hid (fun W g (hW : Cx w0 b (l ++ []) W) hg => add2 (w0 := w0) (b := b) p ⟨#[46]⟩ W g hW hg (by simp at hl ⊢; omega))
      have h1 := Lib.hid (fun W g (hW : Cx w0 b (l ++ ([] ++ (p.data.toList ++ [46]))) W) hg => add1 (w0 := w0) (b := b) n W g hW hg (by simp at hl ⊢; omega))
      have h2 : RowKit.Hid (∀ W, Cx w0 b (l ++ (([] ++ (p.data.toList ++ [46])) ++ n.data.toList)) W → Calls Tryz.prog 142 #[wp b, .slice q kids.length c, .func (.func 75) #[wp b] #[]] W (Tells w0 b (l ++ (([] ++ (p.data.toList ++ [46])) ++ n.data.toList)) (heldT (kids.map (txt d))) W)) := Lib.hid fun W hW => held_any b d HT _ _ kids W hW (Row9.of hk hW.bel) hw (by simp at hl ⊢; omega)
      have S0 := Lib.hid (St.start h #[.int .i64 21, .string p, .string n, .int .i64 N, .slice q kids.length c])
      have hkk : ¬ (kids.length : Int) = 0 := by omega
      clear h hl hX hw HT hk hke
      generalize heldT (kids.map (txt d)) = T0 at *
      have hpb : (p.toList == []) = false := by simpa using hpe
      have hpn : (p.toList != []) = true := by simpa using hpe
      have hpe2 : ¬ p.toList = (⟨#[]⟩ : ByteArray).toList := fun e => hp (toList_inj e)
      clear hp
      go_enter Tryz.func75, Tryz.ntmps75
      go_wp2_with (go_at_call 99; (with_reducible show Calls Tryz.prog 99 #[_, Value.slice _ 2 2] _ _); refine (h0.out _ _ (S0.out.cx.alloc _) (new_at _ _ _ _ (by simp))).mono ?_; rintro e w1 ⟨rfl, k1⟩; have S1 := Lib.hid (S0.out.next (below_alloc _ _) k1); have m1 := S1.out.bx; have b10 := hb_at m1 0 rfl; have b11 := hb_at m1 1 rfl; have b12 := hb_at m1 2 rfl; have b13 := hb_at m1 3 rfl; have b14 := hb_at m1 4 rfl; clear m1; clear k1)
      go_wp2_with (go_at_call 99; refine (h1.out _ _ (S1.out.cx.alloc _) (new_at _ _ _ _ (by simp))).mono ?_; rintro e w2 ⟨rfl, k1⟩; have S2 := Lib.hid (S1.out.next (below_alloc _ _) k1); have m1 := S2.out.bx; have b20 := hb_at m1 0 rfl; have b21 := hb_at m1 1 rfl; have b22 := hb_at m1 2 rfl; have b23 := hb_at m1 3 rfl; have b24 := hb_at m1 4 rfl; clear m1; clear k1)
      go_wp2_with (go_at_call 142; refine (h2.out _ S2.out.cx).mono ?_; rintro e w3 ⟨rfl, k1⟩; have S3 := Lib.hid (S2.out.next (Below.refl _ _) k1); clear k1)
      go_end0
      exact ⟨rfl, S3.out.wr⟩
set_option maxHeartbeats 8000000 in
set_option maxRecDepth 100000 in
theorem con2_any {w0 : World} (b d : Nat) (HT : TermC d) (l : List UInt8) (p n : ByteArray) (N : Int) (q : Option Addr) (c : Nat) (kids : List Tm) (w : World) (h : Cx w0 b l w) (hk : KidsC w0 d (.slice q kids.length c) kids) (hw : ∀ x ∈ kids, WfT d x)
    (hl : l.length + (qualT p n ++ (if kids.length = 0 then [] else heldT (kids.map (txt d)))).length ≤ 1000000000) :
    Calls Tryz.prog 75 #[wp b, tv 2 p n N (.slice q kids.length c)] w (Tells w0 b l (qualT p n ++ (if kids.length = 0 then [] else heldT (kids.map (txt d)))) w) := by
  by_cases hp : p = ⟨#[]⟩
  · subst hp
    by_cases hke : kids.length = 0
    · have hX : qualT ⟨#[]⟩ n ++ (if kids.length = 0 then [] else heldT (kids.map (txt d))) = ([] ++ n.data.toList) := by simp [qualT, hke]
      rw [hX] at hl ⊢
      have h0 := Lib.hid (fun W g (hW : Cx w0 b (l ++ []) W) hg => add1 (w0 := w0) (b := b) n W g hW hg (by simp at hl ⊢; omega))
      have S0 := Lib.hid (St.start h #[.int .i64 2, .string ⟨#[]⟩, .string n, .int .i64 N, .slice q kids.length c])
      have hke2 : kids.length = 0 := by simpa using hke
      rw [hke2]
      rw [hke2] at S0
      clear h hl hX hw HT hk hke hke2
      go_enter Tryz.func75, Tryz.ntmps75
      go_wp2_with (go_at_call 99; refine (h0.out _ _ (S0.out.cx.alloc _) (new_at _ _ _ _ (by simp))).mono ?_; rintro e w1 ⟨rfl, k1⟩; have S1 := Lib.hid (S0.out.next (below_alloc _ _) k1); have m1 := S1.out.bx; have b10 := hb_at m1 0 rfl; have b11 := hb_at m1 1 rfl; have b12 := hb_at m1 2 rfl; have b13 := hb_at m1 3 rfl; have b14 := hb_at m1 4 rfl; clear m1; clear k1)
      go_end0
      exact ⟨rfl, S1.out.wr⟩
    · have hX : qualT ⟨#[]⟩ n ++ (if kids.length = 0 then [] else heldT (kids.map (txt d))) = (([] ++ n.data.toList) ++ heldT (kids.map (txt d))) := by simp [qualT, hke]
      rw [hX] at hl ⊢
      have h0 := Lib.hid (fun W g (hW : Cx w0 b (l ++ []) W) hg => add1 (w0 := w0) (b := b) n W g hW hg (by simp at hl ⊢; omega))
      have h1 : RowKit.Hid (∀ W, Cx w0 b (l ++ ([] ++ n.data.toList)) W → Calls Tryz.prog 142 #[wp b, .slice q kids.length c, .func (.func 75) #[wp b] #[]] W (Tells w0 b (l ++ ([] ++ n.data.toList)) (heldT (kids.map (txt d))) W)) := Lib.hid fun W hW => held_any b d HT _ _ kids W hW (Row9.of hk hW.bel) hw (by simp at hl ⊢; omega)
      have S0 := Lib.hid (St.start h #[.int .i64 2, .string ⟨#[]⟩, .string n, .int .i64 N, .slice q kids.length c])
      have hkk : ¬ (kids.length : Int) = 0 := by omega
      clear h hl hX hw HT hk hke
      generalize heldT (kids.map (txt d)) = T0 at *
      go_enter Tryz.func75, Tryz.ntmps75
      go_wp2_with (go_at_call 99; refine (h0.out _ _ (S0.out.cx.alloc _) (new_at _ _ _ _ (by simp))).mono ?_; rintro e w1 ⟨rfl, k1⟩; have S1 := Lib.hid (S0.out.next (below_alloc _ _) k1); have m1 := S1.out.bx; have b10 := hb_at m1 0 rfl; have b11 := hb_at m1 1 rfl; have b12 := hb_at m1 2 rfl; have b13 := hb_at m1 3 rfl; have b14 := hb_at m1 4 rfl; clear m1; clear k1)
      go_wp2_with (go_at_call 142; refine (h1.out _ S1.out.cx).mono ?_; rintro e w2 ⟨rfl, k1⟩; have S2 := Lib.hid (S1.out.next (Below.refl _ _) k1); clear k1)
      go_end0
      exact ⟨rfl, S2.out.wr⟩
  · have hpe : ¬ p.toList = [] := fun e => hp (toList_inj (by rw [e, ByteArray.toList_eq]))
    by_cases hke : kids.length = 0
    · have hX : qualT p n ++ (if kids.length = 0 then [] else heldT (kids.map (txt d))) = (([] ++ (p.data.toList ++ [46])) ++ n.data.toList) := by simp [qualT, hpe, hke]
      rw [hX] at hl ⊢
      have h0 := Lib.hid (fun W g (hW : Cx w0 b (l ++ []) W) hg => add2 (w0 := w0) (b := b) p ⟨#[46]⟩ W g hW hg (by simp at hl ⊢; omega))
      have h1 := Lib.hid (fun W g (hW : Cx w0 b (l ++ ([] ++ (p.data.toList ++ [46]))) W) hg => add1 (w0 := w0) (b := b) n W g hW hg (by simp at hl ⊢; omega))
      have S0 := Lib.hid (St.start h #[.int .i64 2, .string p, .string n, .int .i64 N, .slice q kids.length c])
      have hke2 : kids.length = 0 := by simpa using hke
      rw [hke2]
      rw [hke2] at S0
      clear h hl hX hw HT hk hke hke2
      have hpb : (p.toList == []) = false := by simpa using hpe
      have hpn : (p.toList != []) = true := by simpa using hpe
      have hpe2 : ¬ p.toList = (⟨#[]⟩ : ByteArray).toList := fun e => hp (toList_inj e)
      clear hp
      go_enter Tryz.func75, Tryz.ntmps75
      go_wp2_with (go_at_call 99; (with_reducible show Calls Tryz.prog 99 #[_, Value.slice _ 2 2] _ _); refine (h0.out _ _ (S0.out.cx.alloc _) (new_at _ _ _ _ (by simp))).mono ?_; rintro e w1 ⟨rfl, k1⟩; have S1 := Lib.hid (S0.out.next (below_alloc _ _) k1); have m1 := S1.out.bx; have b10 := hb_at m1 0 rfl; have b11 := hb_at m1 1 rfl; have b12 := hb_at m1 2 rfl; have b13 := hb_at m1 3 rfl; have b14 := hb_at m1 4 rfl; clear m1; clear k1)
      go_wp2_with (go_at_call 99; refine (h1.out _ _ (S1.out.cx.alloc _) (new_at _ _ _ _ (by simp))).mono ?_; rintro e w2 ⟨rfl, k1⟩; have S2 := Lib.hid (S1.out.next (below_alloc _ _) k1); have m1 := S2.out.bx; have b20 := hb_at m1 0 rfl; have b21 := hb_at m1 1 rfl; have b22 := hb_at m1 2 rfl; have b23 := hb_at m1 3 rfl; have b24 := hb_at m1 4 rfl; clear m1; clear k1)
      go_end0
      exact ⟨rfl, S2.out.wr⟩
    · have hX : qualT p n ++ (if kids.length = 0 then [] else heldT (kids.map (txt d))) = ((([] ++ (p.data.toList ++ [46])) ++ n.data.toList) ++ heldT (kids.map (txt d))) := by simp [qualT, hpe, hke]
      rw [hX] at hl ⊢
      have h0 := Lib.hid (fun W g (hW : Cx w0 b (l ++ []) W) hg => add2 (w0 := w0) (b := b) p ⟨#[46]⟩ W g hW hg (by simp at hl ⊢; omega))
      have h1 := Lib.hid (fun W g (hW : Cx w0 b (l ++ ([] ++ (p.data.toList ++ [46]))) W) hg => add1 (w0 := w0) (b := b) n W g hW hg (by simp at hl ⊢; omega))
      have h2 : RowKit.Hid (∀ W, Cx w0 b (l ++ (([] ++ (p.data.toList ++ [46])) ++ n.data.toList)) W → Calls Tryz.prog 142 #[wp b, .slice q kids.length c, .func (.func 75) #[wp b] #[]] W (Tells w0 b (l ++ (([] ++ (p.data.toList ++ [46])) ++ n.data.toList)) (heldT (kids.map (txt d))) W)) := Lib.hid fun W hW => held_any b d HT _ _ kids W hW (Row9.of hk hW.bel) hw (by simp at hl ⊢; omega)
      have S0 := Lib.hid (St.start h #[.int .i64 2, .string p, .string n, .int .i64 N, .slice q kids.length c])
      have hkk : ¬ (kids.length : Int) = 0 := by omega
      clear h hl hX hw HT hk hke
      generalize heldT (kids.map (txt d)) = T0 at *
      have hpb : (p.toList == []) = false := by simpa using hpe
      have hpn : (p.toList != []) = true := by simpa using hpe
      have hpe2 : ¬ p.toList = (⟨#[]⟩ : ByteArray).toList := fun e => hp (toList_inj e)
      clear hp
      go_enter Tryz.func75, Tryz.ntmps75
      go_wp2_with (go_at_call 99; (with_reducible show Calls Tryz.prog 99 #[_, Value.slice _ 2 2] _ _); refine (h0.out _ _ (S0.out.cx.alloc _) (new_at _ _ _ _ (by simp))).mono ?_; rintro e w1 ⟨rfl, k1⟩; have S1 := Lib.hid (S0.out.next (below_alloc _ _) k1); have m1 := S1.out.bx; have b10 := hb_at m1 0 rfl; have b11 := hb_at m1 1 rfl; have b12 := hb_at m1 2 rfl; have b13 := hb_at m1 3 rfl; have b14 := hb_at m1 4 rfl; clear m1; clear k1)
      go_wp2_with (go_at_call 99; refine (h1.out _ _ (S1.out.cx.alloc _) (new_at _ _ _ _ (by simp))).mono ?_; rintro e w2 ⟨rfl, k1⟩; have S2 := Lib.hid (S1.out.next (below_alloc _ _) k1); have m1 := S2.out.bx; have b20 := hb_at m1 0 rfl; have b21 := hb_at m1 1 rfl; have b22 := hb_at m1 2 rfl; have b23 := hb_at m1 3 rfl; have b24 := hb_at m1 4 rfl; clear m1; clear k1)
      go_wp2_with (go_at_call 142; refine (h2.out _ S2.out.cx).mono ?_; rintro e w3 ⟨rfl, k1⟩; have S3 := Lib.hid (S2.out.next (Below.refl _ _) k1); clear k1)
      go_end0
      exact ⟨rfl, S3.out.wr⟩
set_option maxHeartbeats 8000000 in
set_option maxRecDepth 100000 in
theorem con15_any {w0 : World} (b d : Nat) (HT : TermC d) (l : List UInt8) (p n : ByteArray) (N : Int) (q : Option Addr) (c : Nat) (kids : List Tm) (w : World) (h : Cx w0 b l w) (hk : KidsC w0 d (.slice q kids.length c) kids) (hw : ∀ x ∈ kids, WfT d x)
    (hl : l.length + (qualT p n ++ (if kids.length = 0 then [] else heldT (kids.map (txt d)))).length ≤ 1000000000) :
    Calls Tryz.prog 75 #[wp b, tv 15 p n N (.slice q kids.length c)] w (Tells w0 b l (qualT p n ++ (if kids.length = 0 then [] else heldT (kids.map (txt d)))) w) := by
  by_cases hp : p = ⟨#[]⟩
  · subst hp
    by_cases hke : kids.length = 0
    · have hX : qualT ⟨#[]⟩ n ++ (if kids.length = 0 then [] else heldT (kids.map (txt d))) = ([] ++ n.data.toList) := by simp [qualT, hke]
      rw [hX] at hl ⊢
      have h0 := Lib.hid (fun W g (hW : Cx w0 b (l ++ []) W) hg => add1 (w0 := w0) (b := b) n W g hW hg (by simp at hl ⊢; omega))
      have S0 := Lib.hid (St.start h #[.int .i64 15, .string ⟨#[]⟩, .string n, .int .i64 N, .slice q kids.length c])
      have hke2 : kids.length = 0 := by simpa using hke
      rw [hke2]
      rw [hke2] at S0
      clear h hl hX hw HT hk hke hke2
      go_enter Tryz.func75, Tryz.ntmps75
      go_wp2_with (go_at_call 99; refine (h0.out _ _ (S0.out.cx.alloc _) (new_at _ _ _ _ (by simp))).mono ?_; rintro e w1 ⟨rfl, k1⟩; have S1 := Lib.hid (S0.out.next (below_alloc _ _) k1); have m1 := S1.out.bx; have b10 := hb_at m1 0 rfl; have b11 := hb_at m1 1 rfl; have b12 := hb_at m1 2 rfl; have b13 := hb_at m1 3 rfl; have b14 := hb_at m1 4 rfl; clear m1; clear k1)
      go_end0
      exact ⟨rfl, S1.out.wr⟩
    · have hX : qualT ⟨#[]⟩ n ++ (if kids.length = 0 then [] else heldT (kids.map (txt d))) = (([] ++ n.data.toList) ++ heldT (kids.map (txt d))) := by simp [qualT, hke]
      rw [hX] at hl ⊢
      have h0 := Lib.hid (fun W g (hW : Cx w0 b (l ++ []) W) hg => add1 (w0 := w0) (b := b) n W g hW hg (by simp at hl ⊢; omega))
      have h1 : RowKit.Hid (∀ W, Cx w0 b (l ++ ([] ++ n.data.toList)) W → Calls Tryz.prog 142 #[wp b, .slice q kids.length c, .func (.func 75) #[wp b] #[]] W (Tells w0 b (l ++ ([] ++ n.data.toList)) (heldT (kids.map (txt d))) W)) := Lib.hid fun W hW => held_any b d HT _ _ kids W hW (Row9.of hk hW.bel) hw (by simp at hl ⊢; omega)
      have S0 := Lib.hid (St.start h #[.int .i64 15, .string ⟨#[]⟩, .string n, .int .i64 N, .slice q kids.length c])
      have hkk : ¬ (kids.length : Int) = 0 := by omega
      clear h hl hX hw HT hk hke
      generalize heldT (kids.map (txt d)) = T0 at *
      go_enter Tryz.func75, Tryz.ntmps75
      go_wp2_with (go_at_call 99; refine (h0.out _ _ (S0.out.cx.alloc _) (new_at _ _ _ _ (by simp))).mono ?_; rintro e w1 ⟨rfl, k1⟩; have S1 := Lib.hid (S0.out.next (below_alloc _ _) k1); have m1 := S1.out.bx; have b10 := hb_at m1 0 rfl; have b11 := hb_at m1 1 rfl; have b12 := hb_at m1 2 rfl; have b13 := hb_at m1 3 rfl; have b14 := hb_at m1 4 rfl; clear m1; clear k1)
      go_wp2_with (go_at_call 142; refine (h1.out _ S1.out.cx).mono ?_; rintro e w2 ⟨rfl, k1⟩; have S2 := Lib.hid (S1.out.next (Below.refl _ _) k1); clear k1)
      go_end0
      exact ⟨rfl, S2.out.wr⟩
  · have hpe : ¬ p.toList = [] := fun e => hp (toList_inj (by rw [e, ByteArray.toList_eq]))
    by_cases hke : kids.length = 0
    · have hX : qualT p n ++ (if kids.length = 0 then [] else heldT (kids.map (txt d))) = (([] ++ (p.data.toList ++ [46])) ++ n.data.toList) := by simp [qualT, hpe, hke]
      rw [hX] at hl ⊢
      have h0 := Lib.hid (fun W g (hW : Cx w0 b (l ++ []) W) hg => add2 (w0 := w0) (b := b) p ⟨#[46]⟩ W g hW hg (by simp at hl ⊢; omega))
      have h1 := Lib.hid (fun W g (hW : Cx w0 b (l ++ ([] ++ (p.data.toList ++ [46]))) W) hg => add1 (w0 := w0) (b := b) n W g hW hg (by simp at hl ⊢; omega))
      have S0 := Lib.hid (St.start h #[.int .i64 15, .string p, .string n, .int .i64 N, .slice q kids.length c])
      have hke2 : kids.length = 0 := by simpa using hke
      rw [hke2]
      rw [hke2] at S0
      clear h hl hX hw HT hk hke hke2
      have hpb : (p.toList == []) = false := by simpa using hpe
      have hpn : (p.toList != []) = true := by simpa using hpe
      have hpe2 : ¬ p.toList = (⟨#[]⟩ : ByteArray).toList := fun e => hp (toList_inj e)
      clear hp
      go_enter Tryz.func75, Tryz.ntmps75
      go_wp2_with (go_at_call 99; (with_reducible show Calls Tryz.prog 99 #[_, Value.slice _ 2 2] _ _); refine (h0.out _ _ (S0.out.cx.alloc _) (new_at _ _ _ _ (by simp))).mono ?_; rintro e w1 ⟨rfl, k1⟩; have S1 := Lib.hid (S0.out.next (below_alloc _ _) k1); have m1 := S1.out.bx; have b10 := hb_at m1 0 rfl; have b11 := hb_at m1 1 rfl; have b12 := hb_at m1 2 rfl; have b13 := hb_at m1 3 rfl; have b14 := hb_at m1 4 rfl; clear m1; clear k1)
      go_wp2_with (go_at_call 99; refine (h1.out _ _ (S1.out.cx.alloc _) (new_at _ _ _ _ (by simp))).mono ?_; rintro e w2 ⟨rfl, k1⟩; have S2 := Lib.hid (S1.out.next (below_alloc _ _) k1); have m1 := S2.out.bx; have b20 := hb_at m1 0 rfl; have b21 := hb_at m1 1 rfl; have b22 := hb_at m1 2 rfl; have b23 := hb_at m1 3 rfl; have b24 := hb_at m1 4 rfl; clear m1; clear k1)
      go_end0
      exact ⟨rfl, S2.out.wr⟩
    · have hX : qualT p n ++ (if kids.length = 0 then [] else heldT (kids.map (txt d))) = ((([] ++ (p.data.toList ++ [46])) ++ n.data.toList) ++ heldT (kids.map (txt d))) := by simp [qualT, hpe, hke]
      rw [hX] at hl ⊢
      have h0 := Lib.hid (fun W g (hW : Cx w0 b (l ++ []) W) hg => add2 (w0 := w0) (b := b) p ⟨#[46]⟩ W g hW hg (by simp at hl ⊢; omega))
      have h1 := Lib.hid (fun W g (hW : Cx w0 b (l ++ ([] ++ (p.data.toList ++ [46]))) W) hg => add1 (w0 := w0) (b := b) n W g hW hg (by simp at hl ⊢; omega))
      have h2 : RowKit.Hid (∀ W, Cx w0 b (l ++ (([] ++ (p.data.toList ++ [46])) ++ n.data.toList)) W → Calls Tryz.prog 142 #[wp b, .slice q kids.length c, .func (.func 75) #[wp b] #[]] W (Tells w0 b (l ++ (([] ++ (p.data.toList ++ [46])) ++ n.data.toList)) (heldT (kids.map (txt d))) W)) := Lib.hid fun W hW => held_any b d HT _ _ kids W hW (Row9.of hk hW.bel) hw (by simp at hl ⊢; omega)
      have S0 := Lib.hid (St.start h #[.int .i64 15, .string p, .string n, .int .i64 N, .slice q kids.length c])
      have hkk : ¬ (kids.length : Int) = 0 := by omega
      clear h hl hX hw HT hk hke
      generalize heldT (kids.map (txt d)) = T0 at *
      have hpb : (p.toList == []) = false := by simpa using hpe
      have hpn : (p.toList != []) = true := by simpa using hpe
      have hpe2 : ¬ p.toList = (⟨#[]⟩ : ByteArray).toList := fun e => hp (toList_inj e)
      clear hp
      go_enter Tryz.func75, Tryz.ntmps75
      go_wp2_with (go_at_call 99; (with_reducible show Calls Tryz.prog 99 #[_, Value.slice _ 2 2] _ _); refine (h0.out _ _ (S0.out.cx.alloc _) (new_at _ _ _ _ (by simp))).mono ?_; rintro e w1 ⟨rfl, k1⟩; have S1 := Lib.hid (S0.out.next (below_alloc _ _) k1); have m1 := S1.out.bx; have b10 := hb_at m1 0 rfl; have b11 := hb_at m1 1 rfl; have b12 := hb_at m1 2 rfl; have b13 := hb_at m1 3 rfl; have b14 := hb_at m1 4 rfl; clear m1; clear k1)
      go_wp2_with (go_at_call 99; refine (h1.out _ _ (S1.out.cx.alloc _) (new_at _ _ _ _ (by simp))).mono ?_; rintro e w2 ⟨rfl, k1⟩; have S2 := Lib.hid (S1.out.next (below_alloc _ _) k1); have m1 := S2.out.bx; have b20 := hb_at m1 0 rfl; have b21 := hb_at m1 1 rfl; have b22 := hb_at m1 2 rfl; have b23 := hb_at m1 3 rfl; have b24 := hb_at m1 4 rfl; clear m1; clear k1)
      go_wp2_with (go_at_call 142; refine (h2.out _ S2.out.cx).mono ?_; rintro e w3 ⟨rfl, k1⟩; have S3 := Lib.hid (S2.out.next (Below.refl _ _) k1); clear k1)
      go_end0
      exact ⟨rfl, S3.out.wr⟩
set_option maxHeartbeats 8000000 in
set_option maxRecDepth 100000 in
theorem con24_any {w0 : World} (b d : Nat) (HT : TermC d) (l : List UInt8) (p n : ByteArray) (N : Int) (q : Option Addr) (c : Nat) (kids : List Tm) (w : World) (h : Cx w0 b l w) (hk : KidsC w0 d (.slice q kids.length c) kids) (hw : ∀ x ∈ kids, WfT d x)
    (hl : l.length + (qualT p n ++ (if kids.length = 0 then [] else heldT (kids.map (txt d)))).length ≤ 1000000000) :
    Calls Tryz.prog 75 #[wp b, tv 24 p n N (.slice q kids.length c)] w (Tells w0 b l (qualT p n ++ (if kids.length = 0 then [] else heldT (kids.map (txt d)))) w) := by
  by_cases hp : p = ⟨#[]⟩
  · subst hp
    by_cases hke : kids.length = 0
    · have hX : qualT ⟨#[]⟩ n ++ (if kids.length = 0 then [] else heldT (kids.map (txt d))) = ([] ++ n.data.toList) := by simp [qualT, hke]
      rw [hX] at hl ⊢
      have h0 := Lib.hid (fun W g (hW : Cx w0 b (l ++ []) W) hg => add1 (w0 := w0) (b := b) n W g hW hg (by simp at hl ⊢; omega))
      have S0 := Lib.hid (St.start h #[.int .i64 24, .string ⟨#[]⟩, .string n, .int .i64 N, .slice q kids.length c])
      have hke2 : kids.length = 0 := by simpa using hke
      rw [hke2]
      rw [hke2] at S0
      clear h hl hX hw HT hk hke hke2
      go_enter Tryz.func75, Tryz.ntmps75
      go_wp2_with (go_at_call 99; refine (h0.out _ _ (S0.out.cx.alloc _) (new_at _ _ _ _ (by simp))).mono ?_; rintro e w1 ⟨rfl, k1⟩; have S1 := Lib.hid (S0.out.next (below_alloc _ _) k1); have m1 := S1.out.bx; have b10 := hb_at m1 0 rfl; have b11 := hb_at m1 1 rfl; have b12 := hb_at m1 2 rfl; have b13 := hb_at m1 3 rfl; have b14 := hb_at m1 4 rfl; clear m1; clear k1)
      go_end0
      exact ⟨rfl, S1.out.wr⟩
    · have hX : qualT ⟨#[]⟩ n ++ (if kids.length = 0 then [] else heldT (kids.map (txt d))) = (([] ++ n.data.toList) ++ heldT (kids.map (txt d))) := by simp [qualT, hke]
      rw [hX] at hl ⊢
      have h0 := Lib.hid (fun W g (hW : Cx w0 b (l ++ []) W) hg => add1 (w0 := w0) (b := b) n W g hW hg (by simp at hl ⊢; omega))
      have h1 : RowKit.Hid (∀ W, Cx w0 b (l ++ ([] ++ n.data.toList)) W → Calls Tryz.prog 142 #[wp b, .slice q kids.length c, .func (.func 75) #[wp b] #[]] W (Tells w0 b (l ++ ([] ++ n.data.toList)) (heldT (kids.map (txt d))) W)) := Lib.hid fun W hW => held_any b d HT _ _ kids W hW (Row9.of hk hW.bel) hw (by simp at hl ⊢; omega)
      have S0 := Lib.hid (St.start h #[.int .i64 24, .string ⟨#[]⟩, .string n, .int .i64 N, .slice q kids.length c])
      have hkk : ¬ (kids.length : Int) = 0 := by omega
      clear h hl hX hw HT hk hke
      generalize heldT (kids.map (txt d)) = T0 at *
      go_enter Tryz.func75, Tryz.ntmps75
      go_wp2_with (go_at_call 99; refine (h0.out _ _ (S0.out.cx.alloc _) (new_at _ _ _ _ (by simp))).mono ?_; rintro e w1 ⟨rfl, k1⟩; have S1 := Lib.hid (S0.out.next (below_alloc _ _) k1); have m1 := S1.out.bx; have b10 := hb_at m1 0 rfl; have b11 := hb_at m1 1 rfl; have b12 := hb_at m1 2 rfl; have b13 := hb_at m1 3 rfl; have b14 := hb_at m1 4 rfl; clear m1; clear k1)
      go_wp2_with (go_at_call 142; refine (h1.out _ S1.out.cx).mono ?_; rintro e w2 ⟨rfl, k1⟩; have S2 := Lib.hid (S1.out.next (Below.refl _ _) k1); clear k1)
      go_end0
      exact ⟨rfl, S2.out.wr⟩
  · have hpe : ¬ p.toList = [] := fun e => hp (toList_inj (by rw [e, ByteArray.toList_eq]))
    by_cases hke : kids.length = 0
    · have hX : qualT p n ++ (if kids.length = 0 then [] else heldT (kids.map (txt d))) = (([] ++ (p.data.toList ++ [46])) ++ n.data.toList) := by simp [qualT, hpe, hke]
      rw [hX] at hl ⊢
      have h0 := Lib.hid (fun W g (hW : Cx w0 b (l ++ []) W) hg => add2 (w0 := w0) (b := b) p ⟨#[46]⟩ W g hW hg (by simp at hl ⊢; omega))
      have h1 := Lib.hid (fun W g (hW : Cx w0 b (l ++ ([] ++ (p.data.toList ++ [46]))) W) hg => add1 (w0 := w0) (b := b) n W g hW hg (by simp at hl ⊢; omega))
      have S0 := Lib.hid (St.start h #[.int .i64 24, .string p, .string n, .int .i64 N, .slice q kids.length c])
      have hke2 : kids.length = 0 := by simpa using hke
      rw [hke2]
      rw [hke2] at S0
      clear h hl hX hw HT hk hke hke2
      have hpb : (p.toList == []) = false := by simpa using hpe
      have hpn : (p.toList != []) = true := by simpa using hpe
      have hpe2 : ¬ p.toList = (⟨#[]⟩ : ByteArray).toList := fun e => hp (toList_inj e)
      clear hp
      go_enter Tryz.func75, Tryz.ntmps75
      go_wp2_with (go_at_call 99; (with_reducible show Calls Tryz.prog 99 #[_, Value.slice _ 2 2] _ _); refine (h0.out _ _ (S0.out.cx.alloc _) (new_at _ _ _ _ (by simp))).mono ?_; rintro e w1 ⟨rfl, k1⟩; have S1 := Lib.hid (S0.out.next (below_alloc _ _) k1); have m1 := S1.out.bx; have b10 := hb_at m1 0 rfl; have b11 := hb_at m1 1 rfl; have b12 := hb_at m1 2 rfl; have b13 := hb_at m1 3 rfl; have b14 := hb_at m1 4 rfl; clear m1; clear k1)
      go_wp2_with (go_at_call 99; refine (h1.out _ _ (S1.out.cx.alloc _) (new_at _ _ _ _ (by simp))).mono ?_; rintro e w2 ⟨rfl, k1⟩; have S2 := Lib.hid (S1.out.next (below_alloc _ _) k1); have m1 := S2.out.bx; have b20 := hb_at m1 0 rfl; have b21 := hb_at m1 1 rfl; have b22 := hb_at m1 2 rfl; have b23 := hb_at m1 3 rfl; have b24 := hb_at m1 4 rfl; clear m1; clear k1)
      go_end0
      exact ⟨rfl, S2.out.wr⟩
    · have hX : qualT p n ++ (if kids.length = 0 then [] else heldT (kids.map (txt d))) = ((([] ++ (p.data.toList ++ [46])) ++ n.data.toList) ++ heldT (kids.map (txt d))) := by simp [qualT, hpe, hke]
      rw [hX] at hl ⊢
      have h0 := Lib.hid (fun W g (hW : Cx w0 b (l ++ []) W) hg => add2 (w0 := w0) (b := b) p ⟨#[46]⟩ W g hW hg (by simp at hl ⊢; omega))
      have h1 := Lib.hid (fun W g (hW : Cx w0 b (l ++ ([] ++ (p.data.toList ++ [46]))) W) hg => add1 (w0 := w0) (b := b) n W g hW hg (by simp at hl ⊢; omega))
      have h2 : RowKit.Hid (∀ W, Cx w0 b (l ++ (([] ++ (p.data.toList ++ [46])) ++ n.data.toList)) W → Calls Tryz.prog 142 #[wp b, .slice q kids.length c, .func (.func 75) #[wp b] #[]] W (Tells w0 b (l ++ (([] ++ (p.data.toList ++ [46])) ++ n.data.toList)) (heldT (kids.map (txt d))) W)) := Lib.hid fun W hW => held_any b d HT _ _ kids W hW (Row9.of hk hW.bel) hw (by simp at hl ⊢; omega)
      have S0 := Lib.hid (St.start h #[.int .i64 24, .string p, .string n, .int .i64 N, .slice q kids.length c])
      have hkk : ¬ (kids.length : Int) = 0 := by omega
      clear h hl hX hw HT hk hke
      generalize heldT (kids.map (txt d)) = T0 at *
      have hpb : (p.toList == []) = false := by simpa using hpe
      have hpn : (p.toList != []) = true := by simpa using hpe
      have hpe2 : ¬ p.toList = (⟨#[]⟩ : ByteArray).toList := fun e => hp (toList_inj e)
      clear hp
      go_enter Tryz.func75, Tryz.ntmps75
      go_wp2_with (go_at_call 99; (with_reducible show Calls Tryz.prog 99 #[_, Value.slice _ 2 2] _ _); refine (h0.out _ _ (S0.out.cx.alloc _) (new_at _ _ _ _ (by simp))).mono ?_; rintro e w1 ⟨rfl, k1⟩; have S1 := Lib.hid (S0.out.next (below_alloc _ _) k1); have m1 := S1.out.bx; have b10 := hb_at m1 0 rfl; have b11 := hb_at m1 1 rfl; have b12 := hb_at m1 2 rfl; have b13 := hb_at m1 3 rfl; have b14 := hb_at m1 4 rfl; clear m1; clear k1)
      go_wp2_with (go_at_call 99; refine (h1.out _ _ (S1.out.cx.alloc _) (new_at _ _ _ _ (by simp))).mono ?_; rintro e w2 ⟨rfl, k1⟩; have S2 := Lib.hid (S1.out.next (below_alloc _ _) k1); have m1 := S2.out.bx; have b20 := hb_at m1 0 rfl; have b21 := hb_at m1 1 rfl; have b22 := hb_at m1 2 rfl; have b23 := hb_at m1 3 rfl; have b24 := hb_at m1 4 rfl; clear m1; clear k1)
      go_wp2_with (go_at_call 142; refine (h2.out _ S2.out.cx).mono ?_; rintro e w3 ⟨rfl, k1⟩; have S3 := Lib.hid (S2.out.next (Below.refl _ _) k1); clear k1)
      go_end0
      exact ⟨rfl, S3.out.wr⟩
end Go.Proofs.YtmkjalnlldpdcaaGreatDoor
/- A term, told, whatever it is. -/
namespace Go.Proofs.YtmkjalnlldpdcaaGreatDoor
open Go.RowKit
set_option linter.unusedSimpArgs false
set_option linter.unusedVariables false
set_option maxHeartbeats 2000000 in
theorem term_next (d : Nat) (HT : TermC d) : TermC (d + 1) := by
  intro w0 b l v x w h ht hw hl
  obtain ⟨dm, k, p, n, N, q, c, kids, ed, rfl, rfl, hp, hn, hk, hc⟩ := ht.open
  obtain rfl : d = dm := by omega
  obtain ⟨hp1, hn1, hN, hkw, hcs⟩ := hw
  rcases hcs with ⟨rfl, hr⟩ | rfl | ⟨rfl | rfl, hr⟩ | ⟨rfl | rfl, hr⟩ | (rfl | rfl | rfl | rfl | rfl) | (rfl | rfl | rfl) | ⟨rfl, h2⟩ | ⟨rfl, h2⟩ | ⟨rfl, h2⟩ | ⟨rfl, h2⟩ | ⟨rfl, h2⟩ | ⟨rfl, h2⟩
  · have e : txt (d + 1) (.mk 1 p n N kids) = tellT ⟨3, n, 0⟩ := by simp [txt]
    rw [e] at hl ⊢
    exact var_told b d HT l p n N q c kids w h hk hkw hr hn1 hl
  · have e : txt (d + 1) (.mk 11 p n N kids) = [95] := by simp [txt]
    rw [e] at hl ⊢
    exact any_told b d HT l p n N q c kids w h hk hkw hl
  · have e : txt (d + 1) (.mk 13 p n N kids) = tellT ⟨4, ⟨#[]⟩, N⟩ := by simp [txt]
    rw [e] at hl ⊢
    exact int13_told b d HT l p n N q c kids w h hk hkw hr hN hl
  · have e : txt (d + 1) (.mk 22 p n N kids) = tellT ⟨4, ⟨#[]⟩, N⟩ := by simp [txt]
    rw [e] at hl ⊢
    exact int22_told b d HT l p n N q c kids w h hk hkw hr hN hl
  · have e : txt (d + 1) (.mk 14 p n N kids) = tellT ⟨5, n, 0⟩ := by simp [txt]
    rw [e] at hl ⊢
    exact text14_told b d HT l p n N q c kids w h hk hkw hr hn1 hl
  · have e : txt (d + 1) (.mk 23 p n N kids) = tellT ⟨5, n, 0⟩ := by simp [txt]
    rw [e] at hl ⊢
    exact text23_told b d HT l p n N q c kids w h hk hkw hr hn1 hl
  · have e : txt (d + 1) (.mk 12 p n N kids) = qualT p n ++ (if kids.length = 0 then [] else heldT (kids.map (txt d))) := by simp [txt]
    rw [e] at hl ⊢
    exact con12_any b d HT l p n N q c kids w h hk hkw hl
  · have e : txt (d + 1) (.mk 21 p n N kids) = qualT p n ++ (if kids.length = 0 then [] else heldT (kids.map (txt d))) := by simp [txt]
    rw [e] at hl ⊢
    exact con21_any b d HT l p n N q c kids w h hk hkw hl
  · have e : txt (d + 1) (.mk 2 p n N kids) = qualT p n ++ (if kids.length = 0 then [] else heldT (kids.map (txt d))) := by simp [txt]
    rw [e] at hl ⊢
    exact con2_any b d HT l p n N q c kids w h hk hkw hl
  · have e : txt (d + 1) (.mk 15 p n N kids) = qualT p n ++ (if kids.length = 0 then [] else heldT (kids.map (txt d))) := by simp [txt]
    rw [e] at hl ⊢
    exact con15_any b d HT l p n N q c kids w h hk hkw hl
  · have e : txt (d + 1) (.mk 24 p n N kids) = qualT p n ++ (if kids.length = 0 then [] else heldT (kids.map (txt d))) := by simp [txt]
    rw [e] at hl ⊢
    exact con24_any b d HT l p n N q c kids w h hk hkw hl
  · have e : txt (d + 1) (.mk 4 p n N kids) = heldT (kids.map (txt d)) := by simp [txt]
    rw [e] at hl ⊢
    exact tup4_told b d HT l p n N q c kids w h hk hkw hl
  · have e : txt (d + 1) (.mk 16 p n N kids) = heldT (kids.map (txt d)) := by simp [txt]
    rw [e] at hl ⊢
    exact tup16_told b d HT l p n N q c kids w h hk hkw hl
  · have e : txt (d + 1) (.mk 25 p n N kids) = heldT (kids.map (txt d)) := by simp [txt]
    rw [e] at hl ⊢
    exact tup25_told b d HT l p n N q c kids w h hk hkw hl
  · have e : txt (d + 1) (.mk 3 p n N kids) = cmpT 3 n N (kids.map fun x => (x, txt d x)) := by simp [txt]
    rw [e] at hl ⊢
    refine cmp3_told b d HT l p n N q c kids w h hk hkw (fun W hW => ?_) hl
    match kids, h2, hk, hkw, hl with
    | [A, C], _, hk, hkw, hl => exact cmp3_any b d HT l p n N q c A C W hW hk hkw hl
  · have e : txt (d + 1) (.mk 26 p n N kids) = cmpT 26 n N (kids.map fun x => (x, txt d x)) := by simp [txt]
    rw [e] at hl ⊢
    refine cmp26_told b d HT l p n N q c kids w h hk hkw (fun W hW => ?_) hl
    match kids, h2, hk, hkw, hl with
    | [A], _, hk, hkw, hl => exact cmp26_any b d HT l p n N q c A W hW hk hkw hl
  · have e : txt (d + 1) (.mk 27 p n N kids) = cmpT 27 n N (kids.map fun x => (x, txt d x)) := by simp [txt]
    rw [e] at hl ⊢
    refine cmp27_told b d HT l p n N q c kids w h hk hkw (fun W hW => ?_) hl
    match kids, h2, hk, hkw, hl with
    | [A, C], _, hk, hkw, hl => exact cmp27_any b d HT l p n N q c A C W hW hk hkw hl
  · have e : txt (d + 1) (.mk 28 p n N kids) = cmpT 28 n N (kids.map fun x => (x, txt d x)) := by simp [txt]
    rw [e] at hl ⊢
    refine cmp28_told b d HT l p n N q c kids w h hk hkw (fun W hW => ?_) hl
    exact cmp28_any b d HT l p n N q c kids W hW hk hkw h2 (hc (.inl rfl)) hl
  · have e : txt (d + 1) (.mk 29 p n N kids) = cmpT 29 n N (kids.map fun x => (x, txt d x)) := by simp [txt]
    rw [e] at hl ⊢
    refine cmp29_told b d HT l p n N q c kids w h hk hkw (fun W hW => ?_) hl
    exact cmp29_any b d HT l p n N q c kids W hW hk hkw h2 hl
  · have e : txt (d + 1) (.mk 30 p n N kids) = cmpT 30 n N (kids.map fun x => (x, txt d x)) := by simp [txt]
    rw [e] at hl ⊢
    refine cmp30_told b d HT l p n N q c kids w h hk hkw (fun W hW => ?_) hl
    have hc2 := hc (.inr rfl)
    match kids, h2, hk, hkw, hl, hc2 with
    | [A, C], _, hk, hkw, hl, hc2 => exact cmp30_any b d HT l p n N q c A C W hW hk hkw hc2 hl
theorem term_any (d : Nat) : TermC d := by
  induction d with
  | zero => intro w0 b l v x w h ht; cases ht
  | succ d ih => exact term_next d ih
end Go.Proofs.YtmkjalnlldpdcaaGreatDoor
/- What a teller's builder holds, as a text. -/
namespace Go.Proofs.YtmkjalnlldpdcaaGreatDoor
open Go.RowKit
set_option linter.unusedSimpArgs false
set_option linter.unusedVariables false
set_option maxHeartbeats 4000000 in
set_option maxRecDepth 100000 in
theorem str_any {B b : Nat} {l : List UInt8} {w : World} (h : Lib.IsBuilder 76 5 B b (Lib.byteCells l) w) (h0 : l ≠ []) (hm : l.length ≤ 1000000000) :
    Calls Tryz.prog 48 #[.pointer (some ⟨b, 0, none⟩)] w fun e w' => e = .returned (.string ⟨l.toArray⟩) ∧ Below B w w' := by
  obtain ⟨p, hB, v, hbk, hown, hne⟩ : ∃ p, Lib.BuilderAt 76 5 B b p (Lib.byteCells l) w := by
    rcases h with h | h
    · exact ⟨_, h⟩
    · exact ⟨_, h⟩
  have hlen : (Lib.byteCells l).length = l.length := Lib.byteCells_length l
  have hpos : 0 < l.length := by
    cases l with
    | nil => exact absurd rfl h0
    | cons x r => simp
  rcases hown.2 with ⟨hv, hn0⟩ | ⟨g, cap, cur, hv, hbg, hg, hnc, hcm, hcs, htake⟩
  · omega
  · rw [hlen] at hv hnc
    subst hv
    have c1 : w.drew.cell? ⟨b, 1, none⟩ = some (.slice (some ⟨g, 0, none⟩) l.length cap) := by
      have : w.drew.heap[b]? = some (.cells #[p, .slice (some ⟨g, 0, none⟩) l.length cap] 76 (0, 0)) := hbk
      rw [Lib.cell_of_heap this]; rfl
    have c0 : w.cell? ⟨b, 1, none⟩ = some (.slice (some ⟨g, 0, none⟩) l.length cap) := c1
    have hSD : (Builtin.unsafeSliceData_ #[72] 129 #[.slice (some ⟨g, 0, none⟩) l.length cap]).run Tryz.prog w.drew = .ok (.pointer (some ⟨g, 0, none⟩)) w.drew :=
      Lib.run_unsafeSliceData_row _ _ _ _ _ _ (by omega)
    have hUS : (Builtin.unsafeString_ #[129, 3] 9 #[.pointer (some ⟨g, 0, none⟩), .int .i64 l.length]).run Tryz.prog w.drew = .ok (.string ⟨l.toArray⟩) (w.drew.freeze ⟨g, 0, none⟩ l.length) := by
      refine Lib.run_unsafeString_row w.drew 129 3 9 5 Tryz.underlying129 (by kernel_rfl) g cur.size ?_ l h0 ?_ (by omega) ?_
      · have hg' : w.drew.heap[g]? = some (.cells cur 5 (0, 0)) := hg
        simp [World.shape?, hg']
      · have := congrArg List.length htake
        rw [List.length_take, Array.length_toList] at this
        have hl2 := hlen
        omega
      · intro j x hx
        have h2 := hown.cells (g := g) rfl j (.int .u8 x.toNat) (by unfold Lib.byteCells; rw [List.getElem?_map, hx]; rfl)
        exact h2
    have mixed : Tryz.prog.follows Departure.mixedOrders = true := by kernel_rfl
    clear hown htake hlen h
    go_enter Tryz.func48, Tryz.ntmps48
    go_wp2
    go_region_o
    all_goals
      go_wp2
      go_ret
      exact ⟨rfl, Lib.below_freeze (Below.drew (Below.refl B w)) hbg _⟩
end Go.Proofs.YtmkjalnlldpdcaaGreatDoor
