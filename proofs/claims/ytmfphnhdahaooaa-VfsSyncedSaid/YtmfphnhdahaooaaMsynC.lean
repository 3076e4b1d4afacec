/- A call of both stores that is a Write or a Truncate, or nothing: bytes that are no file's stay. -/
import Derived.Test.YtmfphnhdahaooaaM33
import Derived.Test.YtmfphnhdahaooaaMsynB
set_option linter.unusedSimpArgs false
set_option linter.unusedVariables false
namespace Go.Proofs.Ytmfphnhdahaooaa
open Go.RowKit Go.Maps
set_option linter.unusedSimpArgs false
set_option linter.unusedVariables false
theorem K5.below {A : Fs} {w w' : World} (hb : Below w.heap.size w w') : K5 A A w w' := K5.of (fun g cs fr h => hb_below h hb (hb_lt h)) rfl
theorem K5.rfrm {A : Fs} {w w' : World} {B : Nat} (hf : RFrm B w w') : K5 A A w w' := K5.of (fun g cs fr h => hf.other g _ (by intro cs2 t f e; cases e; decide) h) rfl
theorem K5.drew (A : Fs) (w : World) : K5 A A w w.drew := K5.of (fun _ _ _ h => h) rfl
def BothK (a : Ac) (B P F : Nat) (A : Fs) (k : Nat) (w : World) (e : Ending) (w' : World) : Prop :=
  BoolP e ∧ (∃ r' A', PairS w' B P F r' A' (k + 2) ∧ DidR a A A' ∧ K5 A A' w w') ∧ Below B w w'
set_option maxRecDepth 100000 in
set_option maxHeartbeats 4000000 in
theorem do_truncK {w : World} {B P F r k : Nat} {A : Fs} {a a0 : Ac} (hae : a0 = a) (h : PairS w B P F r A k) (hk : k ≤ 900) (ha : AcOk w a) (h0 : a.kind = 2) :
    Calls Try.prog 14 #[.pointer (some ⟨P, 0, none⟩), .agg #[.int .i64 a.kind, .string a.name, .string a.dst, .int .i64 a.at_, .int .i64 a.n, .int .u8 a.by_, .slice a.tao a.zs.length a.tc, .slice a.fo a.fl.length a.fc]] w (BothK a0 B P F A k w) := by
  have HAE := Lib.hid hae
  clear hae
  obtain ⟨kind, name, dst, at_, n, by_, tao, zs, tc, fo, fl, fc⟩ := a
  obtain ⟨⟨⟨hp1, hp2⟩, hn1, hn2⟩, ⟨hs, hd⟩, hz, hzl, hf, hfl⟩ := ha
  dsimp only at h0 hp1 hp2 hn1 hn2 hs hd hz hzl hf hfl ⊢
  subst h0
  have HS := Lib.hid hs
  have HD := Lib.hid hd
  have HP := Lib.hid (And.intro hp1 hp2)
  have HNN := Lib.hid (And.intro hn1 hn2)
  have HZ := Lib.hid hz
  have HF := Lib.hid hf
  have HI1 := Lib.hid (h.start #[.int .i64 2, .string name, .string dst, .int .i64 at_, .int .i64 n, .int .u8 by_, .slice tao zs.length tc, .slice fo fl.length fc])
  have HK0 := Lib.hid (K5.below (A := A) (below_alloc w (.cells #[.int .i64 2, .string name, .string dst, .int .i64 at_, .int .i64 n, .int .u8 by_, .slice tao zs.length tc, .slice fo fl.length fc] 39)))
  clear hs hd hp1 hp2 hn1 hn2 hz hf h
  obtain ⟨X, hX⟩ : ∃ X, X = w.heap.size := ⟨_, rfl⟩
  rw [← hX] at HI1
  have y0 : (w.alloc (.cells #[.int .i64 2, .string name, .string dst, .int .i64 at_, .int .i64 n, .int .u8 by_, .slice tao zs.length tc, .slice fo fl.length fc] 39)).cell? ⟨w.heap.size, 0, none⟩ = some (.int .i64 2) := by rw [← hX]; exact hb_at HI1.out.box 0 rfl
  go_enter Try.func14, Try.ntmps14
  go_upto_region 6 with fail
  rw [← hX]
  clear y0 hX
  generalize w.alloc (.cells #[.int .i64 2, .string name, .string dst, .int .i64 at_, .int .i64 n, .int .u8 by_, .slice tao zs.length tc, .slice fo fl.length fc] 39) = w1 at *
  refine wp_region_held_drew (S := fun w' => RowKit.Hid (DoS P X F r #[.int .i64 2, .string name, .string dst, .int .i64 at_, .int .i64 n, .int .u8 by_, .slice tao zs.length tc, .slice fo fl.length fc] w')) (by kernel_rfl) (by exact HI1.out.drew.s) (fun hHeld => ?_)
  refine wpAnyH_take (i := 0) (oi := ⟨some 37, _, _, _, _, _⟩) (v := ?_) rfl (by kernel_rfl) (by kernel_rfl) (by kernel_rfl) (fun _ _ _ h => h) (Or.inl ⟨by rfl, ?_⟩) (by assumption) ?_
  rotate_left
  focus (intro w hSw; (try dsimp only at hSw); go_simp; first | done | with_reducible rfl)
  try simp only [Act.put, List.setIfInBounds_toArray, List.set_cons_zero, List.set_cons_succ]
  refine wpAnyH_take (i := 1) (oi := ⟨some 38, _, _, _, _, _⟩) (v := ?_) rfl (by kernel_rfl) (by kernel_rfl) (by kernel_rfl) (fun _ _ _ h => h) (Or.inl ⟨by rfl, ?_⟩) (by assumption) ?_
  rotate_left
  focus (intro w hSw; (try dsimp only at hSw); go_simp; first | done | with_reducible rfl)
  try simp only [Act.put, List.setIfInBounds_toArray, List.set_cons_zero, List.set_cons_succ]
  refine wpAnyH_take (i := 2) (oi := ⟨some 39, _, _, _, _, _⟩) (v := ?_) rfl (by kernel_rfl) (by kernel_rfl) (by kernel_rfl) (fun _ _ _ h => h) (Or.inl ⟨by rfl, ?_⟩) (by assumption) ?_
  rotate_left
  focus (intro w hSw; (try dsimp only at hSw); go_simp; first | done | with_reducible rfl)
  try simp only [Act.put, List.setIfInBounds_toArray, List.set_cons_zero, List.set_cons_succ]
  refine wpAnyH_take (i := 3) (oi := ⟨some 40, _, _, _, _, _⟩) (v := ?_) rfl (by kernel_rfl) (by kernel_rfl) (by kernel_rfl) (fun _ _ _ h => h) (Or.inl ⟨by rfl, ?_⟩) (by assumption) ?_
  rotate_left
  focus (intro w hSw; obtain ⟨q0, q1⟩ := hSw.out; have e0 := hb_at q0 0 rfl; have e1 := hb_at q0 1 rfl; have x0 := hb_at q1 0 rfl; have x1 := hb_at q1 1 rfl; have x2 := hb_at q1 2 rfl; have x3 := hb_at q1 3 rfl; have x4 := hb_at q1 4 rfl; have x5 := hb_at q1 5 rfl; have x6 := hb_at q1 6 rfl; have x7 := hb_at q1 7 rfl; clear q0 q1; go_simp; first | done | with_reducible rfl)
  try simp only [Act.put, List.setIfInBounds_toArray, List.set_cons_zero, List.set_cons_succ]
  refine wpAnyH_take (i := 4) (oi := ⟨some 41, _, _, _, _, _⟩) (v := ?_) rfl (by kernel_rfl) (by kernel_rfl) (by kernel_rfl) (fun _ _ _ h => h) (Or.inl ⟨by rfl, ?_⟩) (by assumption) ?_
  rotate_left
  focus (intro w hSw; (try dsimp only at hSw); go_simp; first | done | with_reducible rfl)
  try simp only [Act.put, List.setIfInBounds_toArray, List.set_cons_zero, List.set_cons_succ]
  refine wpAnyH_take (i := 5) (oi := ⟨some 42, _, _, _, _, _⟩) (v := ?_) rfl (by kernel_rfl) (by kernel_rfl) (by kernel_rfl) (fun _ _ _ h => h) (Or.inl ⟨by rfl, ?_⟩) (by assumption) ?_
  rotate_left
  focus (intro w hSw; obtain ⟨q0, q1⟩ := hSw.out; have e0 := hb_at q0 0 rfl; have e1 := hb_at q0 1 rfl; have x0 := hb_at q1 0 rfl; have x1 := hb_at q1 1 rfl; have x2 := hb_at q1 2 rfl; have x3 := hb_at q1 3 rfl; have x4 := hb_at q1 4 rfl; have x5 := hb_at q1 5 rfl; have x6 := hb_at q1 6 rfl; have x7 := hb_at q1 7 rfl; clear q0 q1; go_simp; first | done | with_reducible rfl)
  try simp only [Act.put, List.setIfInBounds_toArray, List.set_cons_zero, List.set_cons_succ]
  refine wpAnyH_take (i := 6) (oi := ⟨some 43, _, _, _, _, _⟩) (v := ?_) rfl (by kernel_rfl) (by kernel_rfl) (by kernel_rfl) (fun _ _ _ h => h) (Or.inl ⟨by rfl, ?_⟩) (by assumption) ?_
  rotate_left
  focus (intro w hSw; (try dsimp only at hSw); go_simp; first | done | with_reducible rfl)
  try simp only [Act.put, List.setIfInBounds_toArray, List.set_cons_zero, List.set_cons_succ]
  refine wpAnyH_take (i := 7) (oi := ⟨some 44, _, _, _, _, _⟩) (v := ?_) rfl (by kernel_rfl) (by kernel_rfl) (by kernel_rfl) (fun _ _ _ h => h) (Or.inl ⟨by rfl, ?_⟩) (by assumption) ?_
  rotate_left
  focus (intro w hSw; obtain ⟨q0, q1⟩ := hSw.out; have e0 := hb_at q0 0 rfl; have e1 := hb_at q0 1 rfl; have x0 := hb_at q1 0 rfl; have x1 := hb_at q1 1 rfl; have x2 := hb_at q1 2 rfl; have x3 := hb_at q1 3 rfl; have x4 := hb_at q1 4 rfl; have x5 := hb_at q1 5 rfl; have x6 := hb_at q1 6 rfl; have x7 := hb_at q1 7 rfl; clear q0 q1; go_simp; first | done | with_reducible rfl)
  try simp only [Act.put, List.setIfInBounds_toArray, List.set_cons_zero, List.set_cons_succ]
  refine wpAnyH_take (i := 10) (oi := ⟨some 47, _, _, _, _, _⟩) (v := ?_) rfl (by kernel_rfl) (by kernel_rfl) (by kernel_rfl) (fun _ _ _ h => h) (Or.inl ⟨by rfl, ?_⟩) (by assumption) ?_
  rotate_left
  focus (intro w hSw; (try dsimp only at hSw); go_simp; first | done | with_reducible rfl)
  try simp only [Act.put, List.setIfInBounds_toArray, List.set_cons_zero, List.set_cons_succ]
  refine wpAnyH_take (i := 11) (oi := ⟨some 48, _, _, _, _, _⟩) (v := ?_) rfl (by kernel_rfl) (by kernel_rfl) (by kernel_rfl) (fun _ _ _ h => h) (Or.inl ⟨by rfl, ?_⟩) (by assumption) ?_
  rotate_left
  focus (intro w hSw; (try dsimp only at hSw); go_simp; first | done | with_reducible rfl)
  try simp only [Act.put, List.setIfInBounds_toArray, List.set_cons_zero, List.set_cons_succ]
  refine wpAnyH_take (i := 12) (oi := ⟨some 49, _, _, _, _, _⟩) (v := ?_) rfl (by kernel_rfl) (by kernel_rfl) (by kernel_rfl) (fun _ _ _ h => h) (Or.inl ⟨by rfl, ?_⟩) (by assumption) ?_
  rotate_left
  focus (intro w hSw; (try dsimp only at hSw); go_simp; first | done | with_reducible rfl)
  try simp only [Act.put, List.setIfInBounds_toArray, List.set_cons_zero, List.set_cons_succ]
  refine wpAnyH_take (i := 13) (oi := ⟨some 50, _, _, _, _, _⟩) (v := ?_) rfl (by kernel_rfl) (by kernel_rfl) (by kernel_rfl) (fun _ _ _ h => h) (Or.inl ⟨by rfl, ?_⟩) (by assumption) ?_
  rotate_left
  focus (intro w hSw; obtain ⟨q0, q1⟩ := hSw.out; have e0 := hb_at q0 0 rfl; have e1 := hb_at q0 1 rfl; have x0 := hb_at q1 0 rfl; have x1 := hb_at q1 1 rfl; have x2 := hb_at q1 2 rfl; have x3 := hb_at q1 3 rfl; have x4 := hb_at q1 4 rfl; have x5 := hb_at q1 5 rfl; have x6 := hb_at q1 6 rfl; have x7 := hb_at q1 7 rfl; clear q0 q1; go_simp; first | done | with_reducible rfl)
  try simp only [Act.put, List.setIfInBounds_toArray, List.set_cons_zero, List.set_cons_succ]
  refine wpAnyH_take (i := 14) (oi := ⟨some 51, _, _, _, _, _⟩) (v := ?_) rfl (by kernel_rfl) (by kernel_rfl) (by kernel_rfl) (fun _ _ _ h => h) (Or.inl ⟨by rfl, ?_⟩) (by assumption) ?_
  rotate_left
  focus (intro w hSw; (try dsimp only at hSw); go_simp; first | done | with_reducible rfl)
  try simp only [Act.put, List.setIfInBounds_toArray, List.set_cons_zero, List.set_cons_succ]
  refine wpAnyH_take (i := 15) (oi := ⟨some 52, _, _, _, _, _⟩) (v := ?_) rfl (by kernel_rfl) (by kernel_rfl) (by kernel_rfl) (fun _ _ _ h => h) (Or.inl ⟨by rfl, ?_⟩) (by assumption) ?_
  rotate_left
  focus (intro w hSw; obtain ⟨q0, q1⟩ := hSw.out; have e0 := hb_at q0 0 rfl; have e1 := hb_at q0 1 rfl; have x0 := hb_at q1 0 rfl; have x1 := hb_at q1 1 rfl; have x2 := hb_at q1 2 rfl; have x3 := hb_at q1 3 rfl; have x4 := hb_at q1 4 rfl; have x5 := hb_at q1 5 rfl; have x6 := hb_at q1 6 rfl; have x7 := hb_at q1 7 rfl; clear q0 q1; go_simp; first | done | with_reducible rfl)
  try simp only [Act.put, List.setIfInBounds_toArray, List.set_cons_zero, List.set_cons_succ]
  refine wpAnyH_take (i := 16) (oi := ⟨some 53, _, _, _, _, _⟩) (v := ?_) rfl (by kernel_rfl) (by kernel_rfl) (by kernel_rfl) (fun _ _ _ h => h) (Or.inl ⟨by rfl, ?_⟩) (by assumption) ?_
  rotate_left
  focus (intro w hSw; (try dsimp only at hSw); go_simp; first | done | with_reducible rfl)
  try simp only [Act.put, List.setIfInBounds_toArray, List.set_cons_zero, List.set_cons_succ]
  refine wpAnyH_take (i := 17) (oi := ⟨some 54, _, _, _, _, _⟩) (v := ?_) rfl (by kernel_rfl) (by kernel_rfl) (by kernel_rfl) (fun _ _ _ h => h) (Or.inl ⟨by rfl, ?_⟩) (by assumption) ?_
  rotate_left
  focus (intro w hSw; obtain ⟨q0, q1⟩ := hSw.out; have e0 := hb_at q0 0 rfl; have e1 := hb_at q0 1 rfl; have x0 := hb_at q1 0 rfl; have x1 := hb_at q1 1 rfl; have x2 := hb_at q1 2 rfl; have x3 := hb_at q1 3 rfl; have x4 := hb_at q1 4 rfl; have x5 := hb_at q1 5 rfl; have x6 := hb_at q1 6 rfl; have x7 := hb_at q1 7 rfl; clear q0 q1; go_simp; first | done | with_reducible rfl)
  try simp only [Act.put, List.setIfInBounds_toArray, List.set_cons_zero, List.set_cons_succ]
  refine wpAnyH_ready (rs := [8]) (by kernel_rfl) (by simp) ?_
  refine AllReadyH.cons (o := ⟨some 45, _, _, _, _, _⟩) rfl (fun K hK => ?_) AllReadyH.nil
  go_simp
  (go_at_call 27; (with_reducible refine (HI1.out.drew.sto.truncK (by omega) name HS.out n).mono ?_); rintro e w2 hop; obtain ⟨c, A', rfl, hS, hdd, hfr, hk5⟩ := hop.did; have HK5 := Lib.hid hk5; have HI2 := Lib.hid (HI1.out.drew.fsteps hS hfr); have HDD := Lib.hid hdd; clear hS hdd hfr hk5)
  go_wp2_with fail
  refine hK.out _ _ (HI2.out.s) (fun hNew => ?_)
  clear hK K
  have hHeld := hNew
  try simp only [Act.put, List.setIfInBounds_toArray, List.set_cons_zero, List.set_cons_succ]
  refine wpAnyH_ready (rs := [9]) (by kernel_rfl) (by simp) ?_
  refine AllReadyH.cons (o := ⟨some 46, _, _, _, _, _⟩) rfl (fun K hK => ?_) AllReadyH.nil
  go_simp
  (go_at_call 11; (with_reducible refine (no_any _ _).mono ?_); rintro e w9 ⟨rfl, rfl⟩)
  go_wp2_with fail
  refine hK.out _ _ (HI2.out.s) (fun hNew => ?_)
  clear hK K
  have hHeld := hNew
  try simp only [Act.put, List.setIfInBounds_toArray, List.set_cons_zero, List.set_cons_succ]
  refine wpAnyH_ready (rs := [18]) (by kernel_rfl) (by simp) ?_
  refine AllReadyH.cons (o := ⟨some 55, _, _, _, _, _⟩) rfl (fun K hK => ?_) AllReadyH.nil
  go_simp
  (go_at_call 34; (with_reducible refine (HI2.out.ref.trunc (by omega) HI2.out.size name HS.out n).mono ?_); rintro e w3 ⟨⟨c2, rfl⟩, hR, hfr⟩; have HI9 := Lib.hid (HI2.out.rsteps hR hfr); have HKc := Lib.hid (K5.rfrm (A := A') hfr); clear hR hfr)
  go_wp2_with fail
  refine hK.out _ _ (HI9.out.s) (fun hNew => ?_)
  clear hK K
  have hHeld := hNew
  try simp only [Act.put, List.setIfInBounds_toArray, List.set_cons_zero, List.set_cons_succ]
  refine wpAnyH_take (i := 19) (oi := ⟨some 56, _, _, _, _, _⟩) (v := ?_) rfl (by kernel_rfl) (by kernel_rfl) (by kernel_rfl) (fun _ _ _ h => h) (Or.inl ⟨by rfl, ?_⟩) (by assumption) ?_
  rotate_left
  focus (intro w hSw; (try dsimp only at hSw); go_simp; first | done | with_reducible rfl)
  try simp only [Act.put, List.setIfInBounds_toArray, List.set_cons_zero, List.set_cons_succ]
  refine wpAnyH_take (i := 20) (oi := ⟨some 4, _, _, _, _, _⟩) (v := ?_) rfl (by kernel_rfl) (by kernel_rfl) (by kernel_rfl) (fun _ _ _ h => h) (Or.inl ⟨by rfl, ?_⟩) (by assumption) ?_
  rotate_left
  focus (intro w hSw; (try dsimp only at hSw); go_simp; first | done | with_reducible rfl)
  try simp only [Act.put, List.setIfInBounds_toArray, List.set_cons_zero, List.set_cons_succ]
  refine wpAnyH_done (by kernel_rfl) ?_ _
  clear hHeld
  go_wp2
  go_ret
  obtain ⟨hps, hbl⟩ := HI9.out.fin (k := k + 2) (by omega) (by omega)
  exact ⟨⟨_, rfl⟩, ⟨r, A', hps, (did_of HAE.out HDD.out fun h => .inr (.inl ⟨rfl, h⟩)), ((HK0.out.trans (K5.drew A w1)).trans HK5.out).trans HKc.out⟩, hbl⟩
set_option maxRecDepth 100000 in
set_option maxHeartbeats 4000000 in
theorem do_write0K {w : World} {B P F r k : Nat} {A : Fs} {a a0 : Ac} (hae : a0 = a) (h : PairS w B P F r A k) (hk : k ≤ 900) (ha : AcOk w a) (h0 : a.kind = 0) :
    Calls Try.prog 14 #[.pointer (some ⟨P, 0, none⟩), .agg #[.int .i64 a.kind, .string a.name, .string a.dst, .int .i64 a.at_, .int .i64 a.n, .int .u8 a.by_, .slice a.tao a.zs.length a.tc, .slice a.fo a.fl.length a.fc]] w (BothK a0 B P F A k w) := by
  have HAE := Lib.hid hae
  clear hae
  obtain ⟨kind, name, dst, at_, n, by_, tao, zs, tc, fo, fl, fc⟩ := a
  obtain ⟨⟨⟨hp1, hp2⟩, hn1, hn2⟩, ⟨hs, hd⟩, hz, hzl, hf, hfl⟩ := ha
  dsimp only at h0 hp1 hp2 hn1 hn2 hs hd hz hzl hf hfl ⊢
  subst h0
  have HS := Lib.hid hs
  have HD := Lib.hid hd
  have HP := Lib.hid (And.intro hp1 hp2)
  have HNN := Lib.hid (And.intro hn1 hn2)
  have HZ := Lib.hid hz
  have HF := Lib.hid hf
  have HI1 := Lib.hid (h.start #[.int .i64 0, .string name, .string dst, .int .i64 at_, .int .i64 n, .int .u8 by_, .slice tao zs.length tc, .slice fo fl.length fc])
  have HK0 := Lib.hid (K5.below (A := A) (below_alloc w (.cells #[.int .i64 0, .string name, .string dst, .int .i64 at_, .int .i64 n, .int .u8 by_, .slice tao zs.length tc, .slice fo fl.length fc] 39)))
  clear hs hd hp1 hp2 hn1 hn2 hz hf h
  obtain ⟨X, hX⟩ : ∃ X, X = w.heap.size := ⟨_, rfl⟩
  rw [← hX] at HI1
  have y0 : (w.alloc (.cells #[.int .i64 0, .string name, .string dst, .int .i64 at_, .int .i64 n, .int .u8 by_, .slice tao zs.length tc, .slice fo fl.length fc] 39)).cell? ⟨w.heap.size, 0, none⟩ = some (.int .i64 0) := by rw [← hX]; exact hb_at HI1.out.box 0 rfl
  go_enter Try.func14, Try.ntmps14
  go_upto_region 4 with fail
  rw [← hX]
  clear y0 hX
  generalize w.alloc (.cells #[.int .i64 0, .string name, .string dst, .int .i64 at_, .int .i64 n, .int .u8 by_, .slice tao zs.length tc, .slice fo fl.length fc] 39) = w1 at *
  refine wp_region_held_drew (S := fun w' => RowKit.Hid (DoS P X F r #[.int .i64 0, .string name, .string dst, .int .i64 at_, .int .i64 n, .int .u8 by_, .slice tao zs.length tc, .slice fo fl.length fc] w')) (by kernel_rfl) (by exact HI1.out.drew.s) (fun hHeld => ?_)
  refine wpAnyH_take (i := 0) (oi := ⟨some 10, _, _, _, _, _⟩) (v := ?_) rfl (by kernel_rfl) (by kernel_rfl) (by kernel_rfl) (fun _ _ _ h => h) (Or.inl ⟨by rfl, ?_⟩) (by assumption) ?_
  rotate_left
  focus (intro w hSw; (try dsimp only at hSw); go_simp; first | done | with_reducible rfl)
  try simp only [Act.put, List.setIfInBounds_toArray, List.set_cons_zero, List.set_cons_succ]
  refine wpAnyH_take (i := 1) (oi := ⟨some 11, _, _, _, _, _⟩) (v := ?_) rfl (by kernel_rfl) (by kernel_rfl) (by kernel_rfl) (fun _ _ _ h => h) (Or.inl ⟨by rfl, ?_⟩) (by assumption) ?_
  rotate_left
  focus (intro w hSw; (try dsimp only at hSw); go_simp; first | done | with_reducible rfl)
  try simp only [Act.put, List.setIfInBounds_toArray, List.set_cons_zero, List.set_cons_succ]
  refine wpAnyH_take (i := 2) (oi := ⟨some 12, _, _, _, _, _⟩) (v := ?_) rfl (by kernel_rfl) (by kernel_rfl) (by kernel_rfl) (fun _ _ _ h => h) (Or.inl ⟨by rfl, ?_⟩) (by assumption) ?_
  rotate_left
  focus (intro w hSw; (try dsimp only at hSw); go_simp; first | done | with_reducible rfl)
  try simp only [Act.put, List.setIfInBounds_toArray, List.set_cons_zero, List.set_cons_succ]
  refine wpAnyH_take (i := 3) (oi := ⟨some 13, _, _, _, _, _⟩) (v := ?_) rfl (by kernel_rfl) (by kernel_rfl) (by kernel_rfl) (fun _ _ _ h => h) (Or.inl ⟨by rfl, ?_⟩) (by assumption) ?_
  rotate_left
  focus (intro w hSw; obtain ⟨q0, q1⟩ := hSw.out; have e0 := hb_at q0 0 rfl; have e1 := hb_at q0 1 rfl; have x0 := hb_at q1 0 rfl; have x1 := hb_at q1 1 rfl; have x2 := hb_at q1 2 rfl; have x3 := hb_at q1 3 rfl; have x4 := hb_at q1 4 rfl; have x5 := hb_at q1 5 rfl; have x6 := hb_at q1 6 rfl; have x7 := hb_at q1 7 rfl; clear q0 q1; go_simp; first | done | with_reducible rfl)
  try simp only [Act.put, List.setIfInBounds_toArray, List.set_cons_zero, List.set_cons_succ]
  refine wpAnyH_take (i := 4) (oi := ⟨some 14, _, _, _, _, _⟩) (v := ?_) rfl (by kernel_rfl) (by kernel_rfl) (by kernel_rfl) (fun _ _ _ h => h) (Or.inl ⟨by rfl, ?_⟩) (by assumption) ?_
  rotate_left
  focus (intro w hSw; (try dsimp only at hSw); go_simp; first | done | with_reducible rfl)
  try simp only [Act.put, List.setIfInBounds_toArray, List.set_cons_zero, List.set_cons_succ]
  refine wpAnyH_take (i := 5) (oi := ⟨some 15, _, _, _, _, _⟩) (v := ?_) rfl (by kernel_rfl) (by kernel_rfl) (by kernel_rfl) (fun _ _ _ h => h) (Or.inl ⟨by rfl, ?_⟩) (by assumption) ?_
  rotate_left
  focus (intro w hSw; obtain ⟨q0, q1⟩ := hSw.out; have e0 := hb_at q0 0 rfl; have e1 := hb_at q0 1 rfl; have x0 := hb_at q1 0 rfl; have x1 := hb_at q1 1 rfl; have x2 := hb_at q1 2 rfl; have x3 := hb_at q1 3 rfl; have x4 := hb_at q1 4 rfl; have x5 := hb_at q1 5 rfl; have x6 := hb_at q1 6 rfl; have x7 := hb_at q1 7 rfl; clear q0 q1; go_simp; first | done | with_reducible rfl)
  try simp only [Act.put, List.setIfInBounds_toArray, List.set_cons_zero, List.set_cons_succ]
  refine wpAnyH_take (i := 6) (oi := ⟨some 16, _, _, _, _, _⟩) (v := ?_) rfl (by kernel_rfl) (by kernel_rfl) (by kernel_rfl) (fun _ _ _ h => h) (Or.inl ⟨by rfl, ?_⟩) (by assumption) ?_
  rotate_left
  focus (intro w hSw; (try dsimp only at hSw); go_simp; first | done | with_reducible rfl)
  try simp only [Act.put, List.setIfInBounds_toArray, List.set_cons_zero, List.set_cons_succ]
  refine wpAnyH_take (i := 7) (oi := ⟨some 17, _, _, _, _, _⟩) (v := ?_) rfl (by kernel_rfl) (by kernel_rfl) (by kernel_rfl) (fun _ _ _ h => h) (Or.inl ⟨by rfl, ?_⟩) (by assumption) ?_
  rotate_left
  focus (intro w hSw; obtain ⟨q0, q1⟩ := hSw.out; have e0 := hb_at q0 0 rfl; have e1 := hb_at q0 1 rfl; have x0 := hb_at q1 0 rfl; have x1 := hb_at q1 1 rfl; have x2 := hb_at q1 2 rfl; have x3 := hb_at q1 3 rfl; have x4 := hb_at q1 4 rfl; have x5 := hb_at q1 5 rfl; have x6 := hb_at q1 6 rfl; have x7 := hb_at q1 7 rfl; clear q0 q1; go_simp; first | done | with_reducible rfl)
  try simp only [Act.put, List.setIfInBounds_toArray, List.set_cons_zero, List.set_cons_succ]
  refine wpAnyH_take (i := 8) (oi := ⟨some 18, _, _, _, _, _⟩) (v := ?_) rfl (by kernel_rfl) (by kernel_rfl) (by kernel_rfl) (fun _ _ _ h => h) (Or.inl ⟨by rfl, ?_⟩) (by assumption) ?_
  rotate_left
  focus (intro w hSw; obtain ⟨q0, q1⟩ := hSw.out; have e0 := hb_at q0 0 rfl; have e1 := hb_at q0 1 rfl; have x0 := hb_at q1 0 rfl; have x1 := hb_at q1 1 rfl; have x2 := hb_at q1 2 rfl; have x3 := hb_at q1 3 rfl; have x4 := hb_at q1 4 rfl; have x5 := hb_at q1 5 rfl; have x6 := hb_at q1 6 rfl; have x7 := hb_at q1 7 rfl; clear q0 q1; go_simp; first | done | with_reducible rfl)
  try simp only [Act.put, List.setIfInBounds_toArray, List.set_cons_zero, List.set_cons_succ]
  refine wpAnyH_take (i := 12) (oi := ⟨some 22, _, _, _, _, _⟩) (v := ?_) rfl (by kernel_rfl) (by kernel_rfl) (by kernel_rfl) (fun _ _ _ h => h) (Or.inl ⟨by rfl, ?_⟩) (by assumption) ?_
  rotate_left
  focus (intro w hSw; (try dsimp only at hSw); go_simp; first | done | with_reducible rfl)
  try simp only [Act.put, List.setIfInBounds_toArray, List.set_cons_zero, List.set_cons_succ]
  refine wpAnyH_take (i := 13) (oi := ⟨some 23, _, _, _, _, _⟩) (v := ?_) rfl (by kernel_rfl) (by kernel_rfl) (by kernel_rfl) (fun _ _ _ h => h) (Or.inl ⟨by rfl, ?_⟩) (by assumption) ?_
  rotate_left
  focus (intro w hSw; (try dsimp only at hSw); go_simp; first | done | with_reducible rfl)
  try simp only [Act.put, List.setIfInBounds_toArray, List.set_cons_zero, List.set_cons_succ]
  refine wpAnyH_take (i := 14) (oi := ⟨some 24, _, _, _, _, _⟩) (v := ?_) rfl (by kernel_rfl) (by kernel_rfl) (by kernel_rfl) (fun _ _ _ h => h) (Or.inl ⟨by rfl, ?_⟩) (by assumption) ?_
  rotate_left
  focus (intro w hSw; (try dsimp only at hSw); go_simp; first | done | with_reducible rfl)
  try simp only [Act.put, List.setIfInBounds_toArray, List.set_cons_zero, List.set_cons_succ]
  refine wpAnyH_take (i := 15) (oi := ⟨some 25, _, _, _, _, _⟩) (v := ?_) rfl (by kernel_rfl) (by kernel_rfl) (by kernel_rfl) (fun _ _ _ h => h) (Or.inl ⟨by rfl, ?_⟩) (by assumption) ?_
  rotate_left
  focus (intro w hSw; obtain ⟨q0, q1⟩ := hSw.out; have e0 := hb_at q0 0 rfl; have e1 := hb_at q0 1 rfl; have x0 := hb_at q1 0 rfl; have x1 := hb_at q1 1 rfl; have x2 := hb_at q1 2 rfl; have x3 := hb_at q1 3 rfl; have x4 := hb_at q1 4 rfl; have x5 := hb_at q1 5 rfl; have x6 := hb_at q1 6 rfl; have x7 := hb_at q1 7 rfl; clear q0 q1; go_simp; first | done | with_reducible rfl)
  try simp only [Act.put, List.setIfInBounds_toArray, List.set_cons_zero, List.set_cons_succ]
  refine wpAnyH_take (i := 16) (oi := ⟨some 26, _, _, _, _, _⟩) (v := ?_) rfl (by kernel_rfl) (by kernel_rfl) (by kernel_rfl) (fun _ _ _ h => h) (Or.inl ⟨by rfl, ?_⟩) (by assumption) ?_
  rotate_left
  focus (intro w hSw; (try dsimp only at hSw); go_simp; first | done | with_reducible rfl)
  try simp only [Act.put, List.setIfInBounds_toArray, List.set_cons_zero, List.set_cons_succ]
  refine wpAnyH_take (i := 17) (oi := ⟨some 27, _, _, _, _, _⟩) (v := ?_) rfl (by kernel_rfl) (by kernel_rfl) (by kernel_rfl) (fun _ _ _ h => h) (Or.inl ⟨by rfl, ?_⟩) (by assumption) ?_
  rotate_left
  focus (intro w hSw; obtain ⟨q0, q1⟩ := hSw.out; have e0 := hb_at q0 0 rfl; have e1 := hb_at q0 1 rfl; have x0 := hb_at q1 0 rfl; have x1 := hb_at q1 1 rfl; have x2 := hb_at q1 2 rfl; have x3 := hb_at q1 3 rfl; have x4 := hb_at q1 4 rfl; have x5 := hb_at q1 5 rfl; have x6 := hb_at q1 6 rfl; have x7 := hb_at q1 7 rfl; clear q0 q1; go_simp; first | done | with_reducible rfl)
  try simp only [Act.put, List.setIfInBounds_toArray, List.set_cons_zero, List.set_cons_succ]
  refine wpAnyH_take (i := 18) (oi := ⟨some 28, _, _, _, _, _⟩) (v := ?_) rfl (by kernel_rfl) (by kernel_rfl) (by kernel_rfl) (fun _ _ _ h => h) (Or.inl ⟨by rfl, ?_⟩) (by assumption) ?_
  rotate_left
  focus (intro w hSw; (try dsimp only at hSw); go_simp; first | done | with_reducible rfl)
  try simp only [Act.put, List.setIfInBounds_toArray, List.set_cons_zero, List.set_cons_succ]
  refine wpAnyH_take (i := 19) (oi := ⟨some 29, _, _, _, _, _⟩) (v := ?_) rfl (by kernel_rfl) (by kernel_rfl) (by kernel_rfl) (fun _ _ _ h => h) (Or.inl ⟨by rfl, ?_⟩) (by assumption) ?_
  rotate_left
  focus (intro w hSw; obtain ⟨q0, q1⟩ := hSw.out; have e0 := hb_at q0 0 rfl; have e1 := hb_at q0 1 rfl; have x0 := hb_at q1 0 rfl; have x1 := hb_at q1 1 rfl; have x2 := hb_at q1 2 rfl; have x3 := hb_at q1 3 rfl; have x4 := hb_at q1 4 rfl; have x5 := hb_at q1 5 rfl; have x6 := hb_at q1 6 rfl; have x7 := hb_at q1 7 rfl; clear q0 q1; go_simp; first | done | with_reducible rfl)
  try simp only [Act.put, List.setIfInBounds_toArray, List.set_cons_zero, List.set_cons_succ]
  refine wpAnyH_take (i := 20) (oi := ⟨some 30, _, _, _, _, _⟩) (v := ?_) rfl (by kernel_rfl) (by kernel_rfl) (by kernel_rfl) (fun _ _ _ h => h) (Or.inl ⟨by rfl, ?_⟩) (by assumption) ?_
  rotate_left
  focus (intro w hSw; obtain ⟨q0, q1⟩ := hSw.out; have e0 := hb_at q0 0 rfl; have e1 := hb_at q0 1 rfl; have x0 := hb_at q1 0 rfl; have x1 := hb_at q1 1 rfl; have x2 := hb_at q1 2 rfl; have x3 := hb_at q1 3 rfl; have x4 := hb_at q1 4 rfl; have x5 := hb_at q1 5 rfl; have x6 := hb_at q1 6 rfl; have x7 := hb_at q1 7 rfl; clear q0 q1; go_simp; first | done | with_reducible rfl)
  try simp only [Act.put, List.setIfInBounds_toArray, List.set_cons_zero, List.set_cons_succ]
  refine wpAnyH_ready (rs := [9]) (by kernel_rfl) (by simp) ?_
  refine AllReadyH.cons (o := ⟨some 19, _, _, _, _, _⟩) rfl (fun K hK => ?_) AllReadyH.nil
  go_simp
  (go_at_call 26; (with_reducible refine (bytes_any _ 0 at_ n by_ name dst _ _).mono ?_); rintro e w2 ⟨g, l, rfl, hll, hlo, hg, hgc, hb2⟩; have hna := HI1.out.drew.sto.apart hg; have HI2 := Lib.hid (HI1.out.drew.on hb2); have HGC := Lib.hid hgc; have HLO := Lib.hid hlo; have HNA := Lib.hid hna; have HKa := Lib.hid (K5.below (A := A) hb2); clear hb2 hgc hlo hna hg)
  go_wp2_with fail
  refine hK.out _ _ (HI2.out.s) (fun hNew => ?_)
  clear hK K
  have hHeld := hNew
  try simp only [Act.put, List.setIfInBounds_toArray, List.set_cons_zero, List.set_cons_succ]
  refine wpAnyH_ready (rs := [10]) (by kernel_rfl) (by simp) ?_
  refine AllReadyH.cons (o := ⟨some 20, _, _, _, _, _⟩) rfl (fun K hK => ?_) AllReadyH.nil
  go_simp
  (go_at_call 25; (with_reducible refine (HI2.out.sto.writeK (by omega) name HS.out at_ HGC.out hll HLO.out HNA.out).mono ?_); rintro e w3 hop; obtain ⟨c, A', rfl, hS, hdd, hfr, hk5⟩ := hop.did; have HK5 := Lib.hid hk5; have HI3 := Lib.hid (HI2.out.fsteps hS hfr); have HDD := Lib.hid hdd; clear hS hdd hfr hk5)
  go_wp2_with fail
  refine hK.out _ _ (HI3.out.s) (fun hNew => ?_)
  clear hK K
  have hHeld := hNew
  try simp only [Act.put, List.setIfInBounds_toArray, List.set_cons_zero, List.set_cons_succ]
  refine wpAnyH_ready (rs := [11]) (by kernel_rfl) (by simp) ?_
  refine AllReadyH.cons (o := ⟨some 21, _, _, _, _, _⟩) rfl (fun K hK => ?_) AllReadyH.nil
  go_simp
  (go_at_call 11; (with_reducible refine (no_any _ _).mono ?_); rintro e w9 ⟨rfl, rfl⟩)
  go_wp2_with fail
  refine hK.out _ _ (HI3.out.s) (fun hNew => ?_)
  clear hK K
  have hHeld := hNew
  try simp only [Act.put, List.setIfInBounds_toArray, List.set_cons_zero, List.set_cons_succ]
  refine wpAnyH_ready (rs := [21]) (by kernel_rfl) (by simp) ?_
  refine AllReadyH.cons (o := ⟨some 31, _, _, _, _, _⟩) rfl (fun K hK => ?_) AllReadyH.nil
  go_simp
  (go_at_call 26; (with_reducible refine (bytes_any _ 0 at_ n by_ name dst _ _).mono ?_); rintro e w4 ⟨g2, l2, rfl, hll2, hlo2, hg2, hgc2, hb4⟩; have HI4 := Lib.hid (HI3.out.on hb4); obtain ⟨z, hzs, hzr⟩ := text_bytes w4 g2 l2.length l2 hlo2 hgc2; have hz2 : z.size ≤ maxLen := (by unfold maxLen; omega); have HZR := Lib.hid hzr; have HZ2 := Lib.hid hz2; have HKb := Lib.hid (K5.below (A := A') hb4); clear hb4 hgc2 hlo2 hg2 hzr hzs hz2)
  go_wp2_with fail
  refine hK.out _ _ (HI4.out.s) (fun hNew => ?_)
  clear hK K
  have hHeld := hNew
  try simp only [Act.put, List.setIfInBounds_toArray, List.set_cons_zero, List.set_cons_succ]
  refine wpAnyH_ready (rs := [22]) (by kernel_rfl) (by simp) ?_
  refine AllReadyH.cons (o := ⟨some 32, _, _, _, _, _⟩) rfl (fun K hK => ?_) AllReadyH.nil
  go_simp
  simp only [HZR.out, Result.andThen]
  go_wp2_with fail
  refine hK.out _ _ (HI4.out.s) (fun hNew => ?_)
  clear hK K
  have hHeld := hNew
  try simp only [Act.put, List.setIfInBounds_toArray, List.set_cons_zero, List.set_cons_succ]
  refine wpAnyH_ready (rs := [23]) (by kernel_rfl) (by simp) ?_
  refine AllReadyH.cons (o := ⟨some 33, _, _, _, _, _⟩) rfl (fun K hK => ?_) AllReadyH.nil
  go_simp
  (go_at_call 33; (with_reducible refine (HI4.out.ref.write (by omega) HI4.out.size name at_ z HS.out HP.out HZ2.out).mono ?_); rintro e w5 ⟨⟨c2, rfl⟩, hR, hfr⟩; have HI9 := Lib.hid (HI4.out.rsteps hR hfr); have HKc := Lib.hid (K5.rfrm (A := A') hfr); clear hR hfr)
  go_wp2_with fail
  refine hK.out _ _ (HI9.out.s) (fun hNew => ?_)
  clear hK K
  have hHeld := hNew
  try simp only [Act.put, List.setIfInBounds_toArray, List.set_cons_zero, List.set_cons_succ]
  refine wpAnyH_take (i := 24) (oi := ⟨some 34, _, _, _, _, _⟩) (v := ?_) rfl (by kernel_rfl) (by kernel_rfl) (by kernel_rfl) (fun _ _ _ h => h) (Or.inl ⟨by rfl, ?_⟩) (by assumption) ?_
  rotate_left
  focus (intro w hSw; (try dsimp only at hSw); go_simp; first | done | with_reducible rfl)
  try simp only [Act.put, List.setIfInBounds_toArray, List.set_cons_zero, List.set_cons_succ]
  refine wpAnyH_take (i := 25) (oi := ⟨some 4, _, _, _, _, _⟩) (v := ?_) rfl (by kernel_rfl) (by kernel_rfl) (by kernel_rfl) (fun _ _ _ h => h) (Or.inl ⟨by rfl, ?_⟩) (by assumption) ?_
  rotate_left
  focus (intro w hSw; (try dsimp only at hSw); go_simp; first | done | with_reducible rfl)
  try simp only [Act.put, List.setIfInBounds_toArray, List.set_cons_zero, List.set_cons_succ]
  refine wpAnyH_done (by kernel_rfl) ?_ _
  clear hHeld
  go_wp2
  go_ret
  obtain ⟨hps, hbl⟩ := HI9.out.fin (k := k + 2) (by omega) (by omega)
  exact ⟨⟨_, rfl⟩, ⟨r, A', hps, (did_of HAE.out HDD.out fun h => .inl ⟨.inl rfl, l, HLO.out, hll, h⟩), ((((HK0.out.trans (K5.drew A w1)).trans HKa.out).trans HK5.out).trans HKb.out).trans HKc.out⟩, hbl⟩
set_option maxRecDepth 100000 in
set_option maxHeartbeats 4000000 in
theorem do_write1K {w : World} {B P F r k : Nat} {A : Fs} {a a0 : Ac} (hae : a0 = a) (h : PairS w B P F r A k) (hk : k ≤ 900) (ha : AcOk w a) (h0 : a.kind = 1) :
    Calls Try.prog 14 #[.pointer (some ⟨P, 0, none⟩), .agg #[.int .i64 a.kind, .string a.name, .string a.dst, .int .i64 a.at_, .int .i64 a.n, .int .u8 a.by_, .slice a.tao a.zs.length a.tc, .slice a.fo a.fl.length a.fc]] w (BothK a0 B P F A k w) := by
  have HAE := Lib.hid hae
  clear hae
  obtain ⟨kind, name, dst, at_, n, by_, tao, zs, tc, fo, fl, fc⟩ := a
  obtain ⟨⟨⟨hp1, hp2⟩, hn1, hn2⟩, ⟨hs, hd⟩, hz, hzl, hf, hfl⟩ := ha
  dsimp only at h0 hp1 hp2 hn1 hn2 hs hd hz hzl hf hfl ⊢
  subst h0
  have HS := Lib.hid hs
  have HD := Lib.hid hd
  have HP := Lib.hid (And.intro hp1 hp2)
  have HNN := Lib.hid (And.intro hn1 hn2)
  have HZ := Lib.hid hz
  have HF := Lib.hid hf
  have HI1 := Lib.hid (h.start #[.int .i64 1, .string name, .string dst, .int .i64 at_, .int .i64 n, .int .u8 by_, .slice tao zs.length tc, .slice fo fl.length fc])
  have HK0 := Lib.hid (K5.below (A := A) (below_alloc w (.cells #[.int .i64 1, .string name, .string dst, .int .i64 at_, .int .i64 n, .int .u8 by_, .slice tao zs.length tc, .slice fo fl.length fc] 39)))
  clear hs hd hp1 hp2 hn1 hn2 hz hf h
  obtain ⟨X, hX⟩ : ∃ X, X = w.heap.size := ⟨_, rfl⟩
  rw [← hX] at HI1
  have y0 : (w.alloc (.cells #[.int .i64 1, .string name, .string dst, .int .i64 at_, .int .i64 n, .int .u8 by_, .slice tao zs.length tc, .slice fo fl.length fc] 39)).cell? ⟨w.heap.size, 0, none⟩ = some (.int .i64 1) := by rw [← hX]; exact hb_at HI1.out.box 0 rfl
  go_enter Try.func14, Try.ntmps14
  go_upto_region 4 with fail
  rw [← hX]
  clear y0 hX
  generalize w.alloc (.cells #[.int .i64 1, .string name, .string dst, .int .i64 at_, .int .i64 n, .int .u8 by_, .slice tao zs.length tc, .slice fo fl.length fc] 39) = w1 at *
  refine wp_region_held_drew (S := fun w' => RowKit.Hid (DoS P X F r #[.int .i64 1, .string name, .string dst, .int .i64 at_, .int .i64 n, .int .u8 by_, .slice tao zs.length tc, .slice fo fl.length fc] w')) (by kernel_rfl) (by exact HI1.out.drew.s) (fun hHeld => ?_)
  refine wpAnyH_take (i := 0) (oi := ⟨some 10, _, _, _, _, _⟩) (v := ?_) rfl (by kernel_rfl) (by kernel_rfl) (by kernel_rfl) (fun _ _ _ h => h) (Or.inl ⟨by rfl, ?_⟩) (by assumption) ?_
  rotate_left
  focus (intro w hSw; (try dsimp only at hSw); go_simp; first | done | with_reducible rfl)
  try simp only [Act.put, List.setIfInBounds_toArray, List.set_cons_zero, List.set_cons_succ]
  refine wpAnyH_take (i := 1) (oi := ⟨some 11, _, _, _, _, _⟩) (v := ?_) rfl (by kernel_rfl) (by kernel_rfl) (by kernel_rfl) (fun _ _ _ h => h) (Or.inl ⟨by rfl, ?_⟩) (by assumption) ?_
  rotate_left
  focus (intro w hSw; (try dsimp only at hSw); go_simp; first | done | with_reducible rfl)
  try simp only [Act.put, List.setIfInBounds_toArray, List.set_cons_zero, List.set_cons_succ]
  refine wpAnyH_take (i := 2) (oi := ⟨some 12, _, _, _, _, _⟩) (v := ?_) rfl (by kernel_rfl) (by kernel_rfl) (by kernel_rfl) (fun _ _ _ h => h) (Or.inl ⟨by rfl, ?_⟩) (by assumption) ?_
  rotate_left
  focus (intro w hSw; (try dsimp only at hSw); go_simp; first | done | with_reducible rfl)
  try simp only [Act.put, List.setIfInBounds_toArray, List.set_cons_zero, List.set_cons_succ]
  refine wpAnyH_take (i := 3) (oi := ⟨some 13, _, _, _, _, _⟩) (v := ?_) rfl (by kernel_rfl) (by kernel_rfl) (by kernel_rfl) (fun _ _ _ h => h) (Or.inl ⟨by rfl, ?_⟩) (by assumption) ?_
  rotate_left
  focus (intro w hSw; obtain ⟨q0, q1⟩ := hSw.out; have e0 := hb_at q0 0 rfl; have e1 := hb_at q0 1 rfl; have x0 := hb_at q1 0 rfl; have x1 := hb_at q1 1 rfl; have x2 := hb_at q1 2 rfl; have x3 := hb_at q1 3 rfl; have x4 := hb_at q1 4 rfl; have x5 := hb_at q1 5 rfl; have x6 := hb_at q1 6 rfl; have x7 := hb_at q1 7 rfl; clear q0 q1; go_simp; first | done | with_reducible rfl)
  try simp only [Act.put, List.setIfInBounds_toArray, List.set_cons_zero, List.set_cons_succ]
  refine wpAnyH_take (i := 4) (oi := ⟨some 14, _, _, _, _, _⟩) (v := ?_) rfl (by kernel_rfl) (by kernel_rfl) (by kernel_rfl) (fun _ _ _ h => h) (Or.inl ⟨by rfl, ?_⟩) (by assumption) ?_
  rotate_left
  focus (intro w hSw; (try dsimp only at hSw); go_simp; first | done | with_reducible rfl)
  try simp only [Act.put, List.setIfInBounds_toArray, List.set_cons_zero, List.set_cons_succ]
  refine wpAnyH_take (i := 5) (oi := ⟨some 15, _, _, _, _, _⟩) (v := ?_) rfl (by kernel_rfl) (by kernel_rfl) (by kernel_rfl) (fun _ _ _ h => h) (Or.inl ⟨by rfl, ?_⟩) (by assumption) ?_
  rotate_left
  focus (intro w hSw; obtain ⟨q0, q1⟩ := hSw.out; have e0 := hb_at q0 0 rfl; have e1 := hb_at q0 1 rfl; have x0 := hb_at q1 0 rfl; have x1 := hb_at q1 1 rfl; have x2 := hb_at q1 2 rfl; have x3 := hb_at q1 3 rfl; have x4 := hb_at q1 4 rfl; have x5 := hb_at q1 5 rfl; have x6 := hb_at q1 6 rfl; have x7 := hb_at q1 7 rfl; clear q0 q1; go_simp; first | done | with_reducible rfl)
  try simp only [Act.put, List.setIfInBounds_toArray, List.set_cons_zero, List.set_cons_succ]
  refine wpAnyH_take (i := 6) (oi := ⟨some 16, _, _, _, _, _⟩) (v := ?_) rfl (by kernel_rfl) (by kernel_rfl) (by kernel_rfl) (fun _ _ _ h => h) (Or.inl ⟨by rfl, ?_⟩) (by assumption) ?_
  rotate_left
  focus (intro w hSw; (try dsimp only at hSw); go_simp; first | done | with_reducible rfl)
  try simp only [Act.put, List.setIfInBounds_toArray, List.set_cons_zero, List.set_cons_succ]
  refine wpAnyH_take (i := 7) (oi := ⟨some 17, _, _, _, _, _⟩) (v := ?_) rfl (by kernel_rfl) (by kernel_rfl) (by kernel_rfl) (fun _ _ _ h => h) (Or.inl ⟨by rfl, ?_⟩) (by assumption) ?_
  rotate_left
  focus (intro w hSw; obtain ⟨q0, q1⟩ := hSw.out; have e0 := hb_at q0 0 rfl; have e1 := hb_at q0 1 rfl; have x0 := hb_at q1 0 rfl; have x1 := hb_at q1 1 rfl; have x2 := hb_at q1 2 rfl; have x3 := hb_at q1 3 rfl; have x4 := hb_at q1 4 rfl; have x5 := hb_at q1 5 rfl; have x6 := hb_at q1 6 rfl; have x7 := hb_at q1 7 rfl; clear q0 q1; go_simp; first | done | with_reducible rfl)
  try simp only [Act.put, List.setIfInBounds_toArray, List.set_cons_zero, List.set_cons_succ]
  refine wpAnyH_take (i := 8) (oi := ⟨some 18, _, _, _, _, _⟩) (v := ?_) rfl (by kernel_rfl) (by kernel_rfl) (by kernel_rfl) (fun _ _ _ h => h) (Or.inl ⟨by rfl, ?_⟩) (by assumption) ?_
  rotate_left
  focus (intro w hSw; obtain ⟨q0, q1⟩ := hSw.out; have e0 := hb_at q0 0 rfl; have e1 := hb_at q0 1 rfl; have x0 := hb_at q1 0 rfl; have x1 := hb_at q1 1 rfl; have x2 := hb_at q1 2 rfl; have x3 := hb_at q1 3 rfl; have x4 := hb_at q1 4 rfl; have x5 := hb_at q1 5 rfl; have x6 := hb_at q1 6 rfl; have x7 := hb_at q1 7 rfl; clear q0 q1; go_simp; first | done | with_reducible rfl)
  try simp only [Act.put, List.setIfInBounds_toArray, List.set_cons_zero, List.set_cons_succ]
  refine wpAnyH_take (i := 12) (oi := ⟨some 22, _, _, _, _, _⟩) (v := ?_) rfl (by kernel_rfl) (by kernel_rfl) (by kernel_rfl) (fun _ _ _ h => h) (Or.inl ⟨by rfl, ?_⟩) (by assumption) ?_
  rotate_left
  focus (intro w hSw; (try dsimp only at hSw); go_simp; first | done | with_reducible rfl)
  try simp only [Act.put, List.setIfInBounds_toArray, List.set_cons_zero, List.set_cons_succ]
  refine wpAnyH_take (i := 13) (oi := ⟨some 23, _, _, _, _, _⟩) (v := ?_) rfl (by kernel_rfl) (by kernel_rfl) (by kernel_rfl) (fun _ _ _ h => h) (Or.inl ⟨by rfl, ?_⟩) (by assumption) ?_
  rotate_left
  focus (intro w hSw; (try dsimp only at hSw); go_simp; first | done | with_reducible rfl)
  try simp only [Act.put, List.setIfInBounds_toArray, List.set_cons_zero, List.set_cons_succ]
  refine wpAnyH_take (i := 14) (oi := ⟨some 24, _, _, _, _, _⟩) (v := ?_) rfl (by kernel_rfl) (by kernel_rfl) (by kernel_rfl) (fun _ _ _ h => h) (Or.inl ⟨by rfl, ?_⟩) (by assumption) ?_
  rotate_left
  focus (intro w hSw; (try dsimp only at hSw); go_simp; first | done | with_reducible rfl)
  try simp only [Act.put, List.setIfInBounds_toArray, List.set_cons_zero, List.set_cons_succ]
  refine wpAnyH_take (i := 15) (oi := ⟨some 25, _, _, _, _, _⟩) (v := ?_) rfl (by kernel_rfl) (by kernel_rfl) (by kernel_rfl) (fun _ _ _ h => h) (Or.inl ⟨by rfl, ?_⟩) (by assumption) ?_
  rotate_left
  focus (intro w hSw; obtain ⟨q0, q1⟩ := hSw.out; have e0 := hb_at q0 0 rfl; have e1 := hb_at q0 1 rfl; have x0 := hb_at q1 0 rfl; have x1 := hb_at q1 1 rfl; have x2 := hb_at q1 2 rfl; have x3 := hb_at q1 3 rfl; have x4 := hb_at q1 4 rfl; have x5 := hb_at q1 5 rfl; have x6 := hb_at q1 6 rfl; have x7 := hb_at q1 7 rfl; clear q0 q1; go_simp; first | done | with_reducible rfl)
  try simp only [Act.put, List.setIfInBounds_toArray, List.set_cons_zero, List.set_cons_succ]
  refine wpAnyH_take (i := 16) (oi := ⟨some 26, _, _, _, _, _⟩) (v := ?_) rfl (by kernel_rfl) (by kernel_rfl) (by kernel_rfl) (fun _ _ _ h => h) (Or.inl ⟨by rfl, ?_⟩) (by assumption) ?_
  rotate_left
  focus (intro w hSw; (try dsimp only at hSw); go_simp; first | done | with_reducible rfl)
  try simp only [Act.put, List.setIfInBounds_toArray, List.set_cons_zero, List.set_cons_succ]
  refine wpAnyH_take (i := 17) (oi := ⟨some 27, _, _, _, _, _⟩) (v := ?_) rfl (by kernel_rfl) (by kernel_rfl) (by kernel_rfl) (fun _ _ _ h => h) (Or.inl ⟨by rfl, ?_⟩) (by assumption) ?_
  rotate_left
  focus (intro w hSw; obtain ⟨q0, q1⟩ := hSw.out; have e0 := hb_at q0 0 rfl; have e1 := hb_at q0 1 rfl; have x0 := hb_at q1 0 rfl; have x1 := hb_at q1 1 rfl; have x2 := hb_at q1 2 rfl; have x3 := hb_at q1 3 rfl; have x4 := hb_at q1 4 rfl; have x5 := hb_at q1 5 rfl; have x6 := hb_at q1 6 rfl; have x7 := hb_at q1 7 rfl; clear q0 q1; go_simp; first | done | with_reducible rfl)
  try simp only [Act.put, List.setIfInBounds_toArray, List.set_cons_zero, List.set_cons_succ]
  refine wpAnyH_take (i := 18) (oi := ⟨some 28, _, _, _, _, _⟩) (v := ?_) rfl (by kernel_rfl) (by kernel_rfl) (by kernel_rfl) (fun _ _ _ h => h) (Or.inl ⟨by rfl, ?_⟩) (by assumption) ?_
  rotate_left
  focus (intro w hSw; (try dsimp only at hSw); go_simp; first | done | with_reducible rfl)
  try simp only [Act.put, List.setIfInBounds_toArray, List.set_cons_zero, List.set_cons_succ]
  refine wpAnyH_take (i := 19) (oi := ⟨some 29, _, _, _, _, _⟩) (v := ?_) rfl (by kernel_rfl) (by kernel_rfl) (by kernel_rfl) (fun _ _ _ h => h) (Or.inl ⟨by rfl, ?_⟩) (by assumption) ?_
  rotate_left
  focus (intro w hSw; obtain ⟨q0, q1⟩ := hSw.out; have e0 := hb_at q0 0 rfl; have e1 := hb_at q0 1 rfl; have x0 := hb_at q1 0 rfl; have x1 := hb_at q1 1 rfl; have x2 := hb_at q1 2 rfl; have x3 := hb_at q1 3 rfl; have x4 := hb_at q1 4 rfl; have x5 := hb_at q1 5 rfl; have x6 := hb_at q1 6 rfl; have x7 := hb_at q1 7 rfl; clear q0 q1; go_simp; first | done | with_reducible rfl)
  try simp only [Act.put, List.setIfInBounds_toArray, List.set_cons_zero, List.set_cons_succ]
  refine wpAnyH_take (i := 20) (oi := ⟨some 30, _, _, _, _, _⟩) (v := ?_) rfl (by kernel_rfl) (by kernel_rfl) (by kernel_rfl) (fun _ _ _ h => h) (Or.inl ⟨by rfl, ?_⟩) (by assumption) ?_
  rotate_left
  focus (intro w hSw; obtain ⟨q0, q1⟩ := hSw.out; have e0 := hb_at q0 0 rfl; have e1 := hb_at q0 1 rfl; have x0 := hb_at q1 0 rfl; have x1 := hb_at q1 1 rfl; have x2 := hb_at q1 2 rfl; have x3 := hb_at q1 3 rfl; have x4 := hb_at q1 4 rfl; have x5 := hb_at q1 5 rfl; have x6 := hb_at q1 6 rfl; have x7 := hb_at q1 7 rfl; clear q0 q1; go_simp; first | done | with_reducible rfl)
  try simp only [Act.put, List.setIfInBounds_toArray, List.set_cons_zero, List.set_cons_succ]
  refine wpAnyH_ready (rs := [9]) (by kernel_rfl) (by simp) ?_
  refine AllReadyH.cons (o := ⟨some 19, _, _, _, _, _⟩) rfl (fun K hK => ?_) AllReadyH.nil
  go_simp
  (go_at_call 26; (with_reducible refine (bytes_any _ 1 at_ n by_ name dst _ _).mono ?_); rintro e w2 ⟨g, l, rfl, hll, hlo, hg, hgc, hb2⟩; have hna := HI1.out.drew.sto.apart hg; have HI2 := Lib.hid (HI1.out.drew.on hb2); have HGC := Lib.hid hgc; have HLO := Lib.hid hlo; have HNA := Lib.hid hna; have HKa := Lib.hid (K5.below (A := A) hb2); clear hb2 hgc hlo hna hg)
  go_wp2_with fail
  refine hK.out _ _ (HI2.out.s) (fun hNew => ?_)
  clear hK K
  have hHeld := hNew
  try simp only [Act.put, List.setIfInBounds_toArray, List.set_cons_zero, List.set_cons_succ]
  refine wpAnyH_ready (rs := [10]) (by kernel_rfl) (by simp) ?_
  refine AllReadyH.cons (o := ⟨some 20, _, _, _, _, _⟩) rfl (fun K hK => ?_) AllReadyH.nil
  go_simp
  (go_at_call 25; (with_reducible refine (HI2.out.sto.writeK (by omega) name HS.out at_ HGC.out hll HLO.out HNA.out).mono ?_); rintro e w3 hop; obtain ⟨c, A', rfl, hS, hdd, hfr, hk5⟩ := hop.did; have HK5 := Lib.hid hk5; have HI3 := Lib.hid (HI2.out.fsteps hS hfr); have HDD := Lib.hid hdd; clear hS hdd hfr hk5)
  go_wp2_with fail
  refine hK.out _ _ (HI3.out.s) (fun hNew => ?_)
  clear hK K
  have hHeld := hNew
  try simp only [Act.put, List.setIfInBounds_toArray, List.set_cons_zero, List.set_cons_succ]
  refine wpAnyH_ready (rs := [11]) (by kernel_rfl) (by simp) ?_
  refine AllReadyH.cons (o := ⟨some 21, _, _, _, _, _⟩) rfl (fun K hK => ?_) AllReadyH.nil
  go_simp
  (go_at_call 11; (with_reducible refine (no_any _ _).mono ?_); rintro e w9 ⟨rfl, rfl⟩)
  go_wp2_with fail
  refine hK.out _ _ (HI3.out.s) (fun hNew => ?_)
  clear hK K
  have hHeld := hNew
  try simp only [Act.put, List.setIfInBounds_toArray, List.set_cons_zero, List.set_cons_succ]
  refine wpAnyH_ready (rs := [21]) (by kernel_rfl) (by simp) ?_
  refine AllReadyH.cons (o := ⟨some 31, _, _, _, _, _⟩) rfl (fun K hK => ?_) AllReadyH.nil
  go_simp
  (go_at_call 26; (with_reducible refine (bytes_any _ 1 at_ n by_ name dst _ _).mono ?_); rintro e w4 ⟨g2, l2, rfl, hll2, hlo2, hg2, hgc2, hb4⟩; have HI4 := Lib.hid (HI3.out.on hb4); obtain ⟨z, hzs, hzr⟩ := text_bytes w4 g2 l2.length l2 hlo2 hgc2; have hz2 : z.size ≤ maxLen := (by unfold maxLen; omega); have HZR := Lib.hid hzr; have HZ2 := Lib.hid hz2; have HKb := Lib.hid (K5.below (A := A') hb4); clear hb4 hgc2 hlo2 hg2 hzr hzs hz2)
  go_wp2_with fail
  refine hK.out _ _ (HI4.out.s) (fun hNew => ?_)
  clear hK K
  have hHeld := hNew
  try simp only [Act.put, List.setIfInBounds_toArray, List.set_cons_zero, List.set_cons_succ]
  refine wpAnyH_ready (rs := [22]) (by kernel_rfl) (by simp) ?_
  refine AllReadyH.cons (o := ⟨some 32, _, _, _, _, _⟩) rfl (fun K hK => ?_) AllReadyH.nil
  go_simp
  simp only [HZR.out, Result.andThen]
  go_wp2_with fail
  refine hK.out _ _ (HI4.out.s) (fun hNew => ?_)
  clear hK K
  have hHeld := hNew
  try simp only [Act.put, List.setIfInBounds_toArray, List.set_cons_zero, List.set_cons_succ]
  refine wpAnyH_ready (rs := [23]) (by kernel_rfl) (by simp) ?_
  refine AllReadyH.cons (o := ⟨some 33, _, _, _, _, _⟩) rfl (fun K hK => ?_) AllReadyH.nil
  go_simp
  (go_at_call 33; (with_reducible refine (HI4.out.ref.write (by omega) HI4.out.size name at_ z HS.out HP.out HZ2.out).mono ?_); rintro e w5 ⟨⟨c2, rfl⟩, hR, hfr⟩; have HI9 := Lib.hid (HI4.out.rsteps hR hfr); have HKc := Lib.hid (K5.rfrm (A := A') hfr); clear hR hfr)
  go_wp2_with fail
  refine hK.out _ _ (HI9.out.s) (fun hNew => ?_)
  clear hK K
  have hHeld := hNew
  try simp only [Act.put, List.setIfInBounds_toArray, List.set_cons_zero, List.set_cons_succ]
  refine wpAnyH_take (i := 24) (oi := ⟨some 34, _, _, _, _, _⟩) (v := ?_) rfl (by kernel_rfl) (by kernel_rfl) (by kernel_rfl) (fun _ _ _ h => h) (Or.inl ⟨by rfl, ?_⟩) (by assumption) ?_
  rotate_left
  focus (intro w hSw; (try dsimp only at hSw); go_simp; first | done | with_reducible rfl)
  try simp only [Act.put, List.setIfInBounds_toArray, List.set_cons_zero, List.set_cons_succ]
  refine wpAnyH_take (i := 25) (oi := ⟨some 4, _, _, _, _, _⟩) (v := ?_) rfl (by kernel_rfl) (by kernel_rfl) (by kernel_rfl) (fun _ _ _ h => h) (Or.inl ⟨by rfl, ?_⟩) (by assumption) ?_
  rotate_left
  focus (intro w hSw; (try dsimp only at hSw); go_simp; first | done | with_reducible rfl)
  try simp only [Act.put, List.setIfInBounds_toArray, List.set_cons_zero, List.set_cons_succ]
  refine wpAnyH_done (by kernel_rfl) ?_ _
  clear hHeld
  go_wp2
  go_ret
  obtain ⟨hps, hbl⟩ := HI9.out.fin (k := k + 2) (by omega) (by omega)
  exact ⟨⟨_, rfl⟩, ⟨r, A', hps, (did_of HAE.out HDD.out fun h => .inl ⟨.inr rfl, l, HLO.out, hll, h⟩), ((((HK0.out.trans (K5.drew A w1)).trans HKa.out).trans HK5.out).trans HKb.out).trans HKc.out⟩, hbl⟩
set_option maxRecDepth 100000 in
set_option maxHeartbeats 4000000 in
theorem do_noneK {w : World} {B P F r k : Nat} {A : Fs} {a a0 : Ac} (hae : a0 = a) (h : PairS w B P F r A k) (hk : k ≤ 900) (ha : AcOk w a) (h0 : ∀ j : Int, 0 ≤ j → j ≤ 9 → a.kind ≠ j) :
    Calls Try.prog 14 #[.pointer (some ⟨P, 0, none⟩), .agg #[.int .i64 a.kind, .string a.name, .string a.dst, .int .i64 a.at_, .int .i64 a.n, .int .u8 a.by_, .slice a.tao a.zs.length a.tc, .slice a.fo a.fl.length a.fc]] w (BothK a0 B P F A k w) := by
  have HAE := Lib.hid hae
  clear hae
  obtain ⟨kind, name, dst, at_, n, by_, tao, zs, tc, fo, fl, fc⟩ := a
  obtain ⟨⟨⟨hp1, hp2⟩, hn1, hn2⟩, ⟨hs, hd⟩, hz, hzl, hf, hfl⟩ := ha
  dsimp only at h0 hp1 hp2 hn1 hn2 hs hd hz hzl hf hfl ⊢
  have hne : ∀ j : Int, 0 ≤ j → j ≤ 9 → (kind == j) = false := fun j h1 h2 => by rw [beq_eq_false_iff_ne]; exact h0 j h1 h2
  have h90 : kind ≠ 9 := h0 9 (by omega) (by omega)
  have H90 := Lib.hid h90
  clear h0 h90
  have n0 := hne 0 (by omega) (by omega)
  have n1 := hne 1 (by omega) (by omega)
  have n2 := hne 2 (by omega) (by omega)
  have n3 := hne 3 (by omega) (by omega)
  have n4 := hne 4 (by omega) (by omega)
  have n5 := hne 5 (by omega) (by omega)
  have n6 := hne 6 (by omega) (by omega)
  have n7 := hne 7 (by omega) (by omega)
  have n8 := hne 8 (by omega) (by omega)
  have n9 := hne 9 (by omega) (by omega)
  clear hne
  have HS := Lib.hid hs
  have HD := Lib.hid hd
  have HP := Lib.hid (And.intro hp1 hp2)
  have HNN := Lib.hid (And.intro hn1 hn2)
  have HZ := Lib.hid hz
  have HF := Lib.hid hf
  have HI1 := Lib.hid (h.start #[.int .i64 kind, .string name, .string dst, .int .i64 at_, .int .i64 n, .int .u8 by_, .slice tao zs.length tc, .slice fo fl.length fc])
  have HK0 := Lib.hid (K5.below (A := A) (below_alloc w (.cells #[.int .i64 kind, .string name, .string dst, .int .i64 at_, .int .i64 n, .int .u8 by_, .slice tao zs.length tc, .slice fo fl.length fc] 39)))
  clear hs hd hp1 hp2 hn1 hn2 hz hf h
  obtain ⟨X, hX⟩ : ∃ X, X = w.heap.size := ⟨_, rfl⟩
  rw [← hX] at HI1
  have y0 : (w.alloc (.cells #[.int .i64 kind, .string name, .string dst, .int .i64 at_, .int .i64 n, .int .u8 by_, .slice tao zs.length tc, .slice fo fl.length fc] 39)).cell? ⟨w.heap.size, 0, none⟩ = some (.int .i64 kind) := by rw [← hX]; exact hb_at HI1.out.box 0 rfl
  go_enter Try.func14, Try.ntmps14
  go_upto_region 23 with fail
  rw [← hX]
  clear y0 hX
  generalize w.alloc (.cells #[.int .i64 kind, .string name, .string dst, .int .i64 at_, .int .i64 n, .int .u8 by_, .slice tao zs.length tc, .slice fo fl.length fc] 39) = w1 at *
  have HI9 := HI1
  have p0 : w1.cell? ⟨P, 0, none⟩ = some (.pointer (some ⟨F, 0, none⟩)) := hb_at HI9.out.pair 0 rfl
  go_wp2
  go_ret
  obtain ⟨hps, hbl⟩ := HI9.out.fin (k := k + 2) (by omega) (by omega)
  exact ⟨⟨_, rfl⟩, ⟨r, A, hps, .inl rfl, HK0.out⟩, hbl⟩
theorem both_few {w : World} {B P F r k : Nat} {A : Fs} {a : Ac} (h : PairS w B P F r A k) (hk : k ≤ 900) (ha : AcOk w a) (h2 : a.kind ≤ 2) :
    Calls Try.prog 14 #[.pointer (some ⟨P, 0, none⟩), .agg #[.int .i64 a.kind, .string a.name, .string a.dst, .int .i64 a.at_, .int .i64 a.n, .int .u8 a.by_, .slice a.tao a.zs.length a.tc, .slice a.fo a.fl.length a.fc]] w (BothK a B P F A k w) := by
  by_cases h0 : a.kind = 0
  · exact do_write0K rfl h hk ha h0
  by_cases h1 : a.kind = 1
  · exact do_write1K rfl h hk ha h1
  by_cases h3 : a.kind = 2
  · exact do_truncK rfl h hk ha h3
  exact do_noneK rfl h hk ha fun j j1 j2 e => by omega
end Go.Proofs.Ytmfphnhdahaooaa
