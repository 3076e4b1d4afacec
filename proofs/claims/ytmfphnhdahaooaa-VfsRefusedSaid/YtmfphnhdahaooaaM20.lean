/- The texts Vs, Vv, Ri, one behind the other. -/
import Derived.Test.YtmfphnhdahaooaaM17
import Derived.Lib.SlBytesConst
import Derived.Test.YtmfphnhdahaooaaM19
import Derived.Test.YtmfphnhdahaooaaM07
set_option linter.unusedSimpArgs false
set_option linter.unusedVariables false
/- The chapter's example holds: what the law's own look at the store asks is true in whatever memory, on every order, at every capacity of new arrays. -/
namespace Go.Proofs.Ytmfphnhdahaooaa
open Go.RowKit Go.Maps

theorem row_form {w : World} {b : Nat} {e : TypeId} {size n : Nat} {v : Value} {xs : List Value} (h : w.ownsRow b e size v n xs) (hn : 0 < n) :
    ∃ T c cur, v = .slice (some ⟨T, 0, none⟩) n c ∧ w.heap[T]? = some (.cells cur e (0, 0)) ∧ n ≤ c ∧ ∀ j, j < n * size → cur[j]? = xs[j]? := by
  obtain ⟨hl, h⟩ := h
  rcases h with ⟨_, h⟩ | ⟨g, cap, cur, rfl, _, hg, hnc, _, _, ht⟩
  · omega
  · refine ⟨g, cap, cur, rfl, hg, hnc, fun j hj => ?_⟩
    rw [← ht, List.getElem?_take, if_pos hj]
    simp

structure Ready (F : Nat) (w w' : World) : Prop where
  all : ∃ N L T c X B cb cur curb, One F N L T c X 0 4 1 ⟨#[97]⟩ ⟨#[]⟩ cur w' ∧ w'.heap[X]? = some (.cells #[.slice (some ⟨B, 0, none⟩) 1 cb, .slice none 0 0] 85 (0, 0)) ∧ w'.heap[B]? = some (.cells curb 5 (0, 0)) ∧ curb[0]? = some (.int .u8 120) ∧ 1 ≤ cb
  below : Below w.heap.size w w'

theorem ready_of {w w1 w2 : World} (h1 : New4 4 w w1) (h2 : Wrote (w.heap.size + 2) w.heap.size (w.heap.size + 1) 4 0 (.slice none 0 0) 0 [] ⟨#[97]⟩ #[] 0 [.int .u8 120] (w1.alloc (.cells #[.int .u8 120] 5 (1, 2))) w2) : Ready (w.heap.size + 2) w w2 := by
  obtain ⟨X, bv, tv, g, hF, hT, _, hX, hB, _, _, _⟩ := h2.all
  obtain ⟨T, c, cur, rfl, hT2, _, ht⟩ := row_form hT (by omega)
  obtain ⟨B, cb, curb, rfl, hB2, hcb, hb⟩ := row_form hB (by decide)
  have hs := h1.size
  have hL := h2.kept (w.heap.size + 1) _ (by omega) (by omega) (by simp [Value.ownBlock]) (hb_alloc h1.lasting _)
  refine ⟨⟨w.heap.size, w.heap.size + 1, T, c, X, B, cb, cur, curb, ⟨hF, hL, hT2, ?_, ?_, ?_, ?_⟩, hX, hB2, ?_, hcb⟩, ?_⟩
  · rw [ht 0 (by decide)]; rfl
  · rw [ht 1 (by decide)]; rfl
  · rw [ht 2 (by decide)]; rfl
  · rw [ht 3 (by decide)]; rfl
  · rw [hb 0 (by decide)]; rfl
  · have r1 := h1.below
    have r2 := h2.rest
    have r3 := h2.size
    rw [size1] at r3
    refine r1.trans ⟨r2.1, r2.2.1, r2.2.2, by omega, fun k hk => ?_⟩
    have hk1 : k < w1.heap.size := by omega
    obtain ⟨x, hx⟩ : ∃ x, w1.heap[k]? = some x := ⟨w1.heap[k], Array.getElem?_eq_getElem hk1⟩
    rw [hx]
    exact h2.kept k x (by omega) (by omega) (by simp [Value.ownBlock]) (hb_alloc hx _)

theorem write_a (w w1 : World) (h1 : New4 4 w w1) : Calls Try.prog 25 #[.pointer (some ⟨w.heap.size + 2, 0, none⟩), .string ⟨#[97]⟩, .int .i64 0, .slice (some ⟨w1.heap.size, 0, none⟩) 1 1] (w1.alloc (.cells #[.int .u8 120] 5 (1, 2))) fun e w' =>
    e = .returned (.int .i64 0) ∧ Ready (w.heap.size + 2) w w' := by
  have h := write_new (w.heap.size + 2) w.heap.size (w.heap.size + 1) w1.heap.size 1 4 0 (.slice none 0 0) 0 [] ⟨#[97]⟩ #[] 0 [.int .u8 120] (1, 2) (w1.alloc (.cells #[.int .u8 120] 5 (1, 2))) (hb_alloc h1.store _) (hb_alloc h1.names _) (World.ownsRow_nil _ _ _ _) (by decide) (heap_alloc_new w1 _)
    (by decide) (by decide) (by decide) (by simp [Value.oneCell']) (by decide) (by decide) nameA (by decide) (by decide) (by decide) (find9_none _) (fun X w => find9_a _ _ w)
  exact h.mono fun e w' h2 => ⟨h2.1, ready_of h1 h2.2⟩

def Made (F X B cb : Nat) (w : World) : Prop := ∃ N L T c cur curb, One F N L T c X 0 4 1 ⟨#[97]⟩ ⟨#[]⟩ cur w ∧ w.heap[X]? = some (.cells #[.slice (some ⟨B, 0, none⟩) 1 cb, .slice none 0 0] 85 (0, 0)) ∧ w.heap[B]? = some (.cells curb 5 (0, 0)) ∧ curb[0]? = some (.int .u8 120) ∧ 1 ≤ cb
theorem Made.below {F X B cb : Nat} {w w' : World} (h : Made F X B cb w) (hb : Below w.heap.size w w') : Made F X B cb w' := by
  obtain ⟨N, L, T, c, cur, curb, hO, hX, hB, hu, hcb⟩ := h
  exact ⟨N, L, T, c, cur, curb, hO.below hb, hb_below hX hb (hb_lt hX), hb_below hB hb (hb_lt hB), hu, hcb⟩

def CrashA (w w' : World) (e : Ending) : Prop := ∃ F2, e = .returned (.pointer (some ⟨F2, 0, none⟩)) ∧ Left0 F2 4 w w'
def CrashB (w w' : World) (e : Ending) : Prop := ∃ F2, e = .returned (.pointer (some ⟨F2, 0, none⟩)) ∧ Left1 F2 4 0 ⟨#[97]⟩ (.slice none 0 0) (.slice none 0 0) w w'
def CrashC (w w' : World) (e : Ending) : Prop := ∃ F2, e = .returned (.pointer (some ⟨F2, 0, none⟩)) ∧ Left2 F2 4 120 w w'

theorem crashA {F X B cb : Nat} (w : World) (h : Made F X B cb w) : Calls Try.prog 20 #[.pointer (some ⟨F, 0, none⟩), .slice none 0 0, .slice none 0 0] w fun e w' => CrashA w w' e := by
  obtain ⟨N, L, T, c, cur, curb, hO, _⟩ := h
  exact (crash_none F N L T c X 0 4 1 _ _ cur w hO (by decide)).mono fun e w' h => h

theorem crashB {F X B cb : Nat} (w : World) (h : Made F X B cb w) : Calls Try.prog 20 #[.pointer (some ⟨F, 0, none⟩), .slice (some ⟨w.heap.size, 0, none⟩) 1 1, .slice none 0 0] (w.alloc (.cells #[.int .i64 0] 3)) fun e w' => CrashB w w' e := by
  have h1 := h.below (below1 w (.cells #[.int .i64 0] 3))
  obtain ⟨N, L, T, c, cur, curb, hO, hX, _⟩ := h1
  exact (crash_one F N L T c X 0 4 1 w.heap.size 1 _ _ _ cur _ hO (by decide) hX (heap_alloc_new w _)).mono fun e w' ⟨F2, he, hl⟩ => ⟨F2, he, hl.all, (below1 w _).trans (hl.below.mono (by simp))⟩

theorem crashC {F X B cb : Nat} (w : World) (h : Made F X B cb w) :
    Calls Try.prog 20 #[.pointer (some ⟨F, 0, none⟩), .slice (some ⟨w.heap.size, 0, none⟩) 1 1, .slice (some ⟨w.heap.size + 1 + 1, 0, none⟩) 1 1]
      (((w.alloc (.cells #[.int .i64 0] 3)).alloc (.cells #[.int .i64 0] 3)).alloc (.cells #[.string ⟨#[97]⟩, .slice (some ⟨w.heap.size + 1, 0, none⟩) 1 1, .bool true] 58)) fun e w' => CrashC w w' e := by
  have h1 := h.below (below3 w (.cells #[.int .i64 0] 3) (.cells #[.int .i64 0] 3) (.cells #[.string ⟨#[97]⟩, .slice (some ⟨w.heap.size + 1, 0, none⟩) 1 1, .bool true] 58))
  obtain ⟨N, L, T, c, cur, curb, hO, hX, hB, hu, hcb⟩ := h1
  exact (crash_two F N L T c X 0 4 1 w.heap.size 1 (w.heap.size + 1 + 1) 1 (w.heap.size + 1) 1 B cb 120 curb _ cur _ hO (by decide) hX hB hu hcb (new3 w _ _ _) (hb_alloc (new2 w _ _) _) (hb_alloc (hb_alloc (heap_alloc_new w _) _) _)).mono
    fun e w' ⟨F2, he, hl⟩ => ⟨F2, he, hl.all, (below3 w _ _ _).trans (hl.below.mono (by simp; omega))⟩

theorem row_cell0 {w : World} {g c : Nat} {x : Value} (h : w.ownsRow 0 5 1 (.slice (some ⟨g, 0, none⟩) 1 c) 1 [x]) : w.cell? ⟨g, 0, none⟩ = some x := by
  obtain ⟨T, c', cur, hv, hT, _, ht⟩ := row_form h (by decide)
  have e : g = T := by injection hv with h1; injection h1 with h1; injection h1
  subst e
  rw [hb_cell hT, ht 0 (by decide)]
  rfl

theorem conv_one (w : World) (g c : Nat) (h : w.cell? ⟨g, 0, none⟩ = some (.int .u8 120)) : (convert 45 9 (.slice (some ⟨g, 0, none⟩) 1 c)).run Try.prog w = .ok (.string ⟨#[120]⟩) w := by
  rw [run_convert_bytes_string w 45 9 5 _ _ _ Try.underlying45 Try.underlying5 Try.underlying9]
  have hl : (loadCells ⟨g, 0, none⟩ 1).run Try.prog w = .ok ([(120 : Int)].map (Value.int .u8)).toArray w := by
    refine run_loadCells_list (P := Try.prog) (w := w) ⟨g, 0, none⟩ [.int .u8 120] fun j v hj => ?_
    cases j with
    | zero =>
      have e : Value.int .u8 120 = v := by simpa using hj
      rw [← e]
      simpa [Addr.add] using h
    | succ n => simp at hj
  rw [run_bytesToString w ⟨g, 0, none⟩ 1 c [120] hl]
  rfl

theorem used_made {F X B cb : Nat} (w : World) (h : Made F X B cb w) : Calls Try.prog 24 #[.pointer (some ⟨F, 0, none⟩)] w fun e w' => e = .returned (.int .i64 1) ∧ w = w' := by
  obtain ⟨N, L, T, c, cur, curb, hO, _⟩ := h
  exact used_ok F 4 1 N L _ w hO.store (by decide)
end Go.Proofs.Ytmfphnhdahaooaa
/- The law's own look at the store, the chapter's example, answers true: whatever memory there is, on every order that Go leaves open. -/
namespace Go.Proofs.Ytmfphnhdahaooaa
open Go.RowKit Go.Maps

set_option maxRecDepth 100000 in
set_option maxHeartbeats 400000 in
theorem alive_ok (w : World) : Calls Try.prog 12 #[] w fun e w' => e = .returned (.bool true) ∧ Below w.heap.size w w' := by
  go_enter Try.func12, Try.ntmps12
  go_upto_region 2 with (first
    | (go_at_call 9; refine (new_ok 4 _ (by decide) (by decide)).mono ?_; rintro e w1 ⟨rfl, h1⟩)
    | go_in)
  have H1 := Lib.hid h1
  clear h1
  have kc := fun (w : World) (C : Array Value) (n c : Nat) => Lib.run_convert_bytes_const (P := Try.prog) w 45 5 C n c Try.underlying45 Try.underlying5
  go_upto_region 4 with (first
    | (go_at_call 11; refine (no_any _ _).mono ?_; rintro e w' ⟨rfl, rfl⟩)
    | (go_at_call 25; refine (write_a w w1 H1.out).mono ?_; rintro e w2 ⟨rfl, hR⟩)
    | go_in)
  clear kc
  obtain ⟨X, B, cb, hm⟩ : ∃ X B cb, Made (w.heap.size + 2) X B cb w2 := by
    obtain ⟨N, L, T, c, X, B, cb, cur, curb, h⟩ := hR.all
    exact ⟨X, B, cb, N, L, T, c, cur, curb, h⟩
  have HM := Lib.hid hm
  have HR := Lib.hid hR.below
  clear hm hR
  obtain ⟨F, hF⟩ : ∃ F, F = w.heap.size + 2 := ⟨_, rfl⟩
  rw [← hF] at HM ⊢
  clear hF H1
  go_upto_region 5 with (first
    | ((go_at_call 20; with_reducible refine (crashA w2 HM.out).mono ?_); rintro e w3 ⟨FA, rfl, h3⟩; have HM3 := Lib.hid (HM.out.below h3.below); have HA := Lib.hid h3; clear h3)
    | ((go_at_call 20; with_reducible refine (crashB w3 HM3.out).mono ?_); rintro e w4 ⟨FB, rfl, h4⟩; have HM4 := Lib.hid (HM3.out.below h4.below); have HB := Lib.hid h4; clear h4)
    | ((go_at_call 20; with_reducible refine (crashC w4 HM4.out).mono ?_); rintro e w5 ⟨FC, rfl, h5⟩; have HC := Lib.hid h5; clear h5))
  have rB : Calls Try.prog 19 #[.pointer (some ⟨FB, 0, none⟩), .string ⟨#[97]⟩] w5 fun e w' => e = .returned (.tuple #[.slice none 0 0, .int .i64 0]) ∧ w' = w5 := by
    obtain ⟨N2, L2, X2, hF, hN, hX⟩ := HB.out.all
    exact read_nil FB N2 L2 X2 4 0 1 _ _ w5 (by decide) (hb_below hF HC.out.below (hb_lt hF)) (hb_below hN HC.out.below (hb_lt hN)) (hb_below hX HC.out.below (hb_lt hX))
  have rC : Calls Try.prog 19 #[.pointer (some ⟨FC, 0, none⟩), .string ⟨#[97]⟩] w5 fun e w' => ∃ g2 c2, e = .returned (.tuple #[.slice (some ⟨g2, 0, none⟩) 1 c2, .int .i64 0]) ∧ NewRow (.slice (some ⟨g2, 0, none⟩) 1 c2) 1 [.int .u8 120] w5 w' := by
    obtain ⟨N2, L2, X2, g, c, lv, hF, hN, hX, hr⟩ := HC.out.all
    exact read_one FC N2 L2 X2 4 1 1 g c lv _ 120 w5 (by decide) hF hN hX hr
  have RB := Lib.hid rB
  have RC := Lib.hid rC
  clear rB rC
  go_upto_region 9 with (first
    | ((go_at_call 19; with_reducible refine (RB.out).mono ?_); rintro e w' ⟨rfl, rfl⟩)
    | ((go_at_call 19; with_reducible refine (RC.out).mono ?_); rintro e w6 ⟨g2, c2, rfl, h6⟩; have H6 := Lib.hid h6; clear h6)
    | go_in)
  have HA6 : Hid (Left0 FA 4 w2 w6) := by
    obtain ⟨⟨N2, L2, hF, hN⟩, hb⟩ := HA.out
    have h1 := hb_below (hb_below (hb_below hF HB.out.below (hb_lt hF)) HC.out.below (hb_lt (hb_below hF HB.out.below (hb_lt hF)))) H6.out.below (hb_lt (hb_below (hb_below hF HB.out.below (hb_lt hF)) HC.out.below (hb_lt (hb_below hF HB.out.below (hb_lt hF)))))
    have h2 := hb_below (hb_below (hb_below hN HB.out.below (hb_lt hN)) HC.out.below (hb_lt (hb_below hN HB.out.below (hb_lt hN)))) H6.out.below (hb_lt (hb_below (hb_below hN HB.out.below (hb_lt hN)) HC.out.below (hb_lt (hb_below hN HB.out.below (hb_lt hN)))))
    have s3 := HB.out.below.size
    have s4 := HC.out.below.size
    have s2 := hb.size
    exact ⟨⟨N2, L2, h1, h2⟩, ((hb.trans (HB.out.below.mono (by omega))).trans (HC.out.below.mono (by omega))).trans (H6.out.below.mono (by omega))⟩
  have HM6 := Lib.hid ((HM4.out.below HC.out.below).below H6.out.below)
  have nA : Calls Try.prog 22 #[.pointer (some ⟨FA, 0, none⟩)] w6 fun e w' => e = .returned (.slice none 0 0) ∧ Below w6.heap.size w6 w' := by
    obtain ⟨⟨N2, L2, hF, hN⟩, _⟩ := HA6.out
    exact names_none FA N2 L2 4 0 _ w6 (by decide) hF hN
  have NA := Lib.hid nA
  clear nA
  go_wp2_with (first
    | ((go_at_call 22; with_reducible refine (NA.out).mono ?_); rintro e w7 ⟨rfl, h7⟩; have H7 := Lib.hid h7; have HM7 := Lib.hid (HM6.out.below h7); have k7 := conv_one w7 g2 c2 (row_cell0 (own_kept (own_base0 H6.out.own) (fun g x _ hx => hb_below hx h7 (hb_lt hx)))); clear h7)
    | (go_at_call 11; refine (no_any _ _).mono ?_; rintro e w' ⟨rfl, rfl⟩)
    | ((go_at_call 24; with_reducible refine (used_made w7 HM7.out).mono ?_); rintro e w' ⟨rfl, rfl⟩)
    | go_in)
  go_ret
  have s1 := HR.out.size
  have s2 := HA6.out.below.size
  exact ⟨rfl, (HR.out.trans (HA6.out.below.mono s1)).trans (H7.out.mono (by omega))⟩
end Go.Proofs.Ytmfphnhdahaooaa
/- A new store has no file; how many sectors a store of four files has; the law's remainders. -/
namespace Go.Proofs.Ytmfphnhdahaooaa
open Go.RowKit Go.Maps

theorem room_start {n : Nat} {w w1 : World} (h : New4 n w w1) : Room w1 w.heap.size (w.heap.size + 2) n (fun _ => 0) 0 :=
  ⟨⟨w.heap.size, w.heap.size + 1, .slice none 0 0, [], #[], 0, fun _ => none, h.store, h.names, World.ownsRow_nil _ _ _ _, fun _ _ => ⟨rfl, rfl⟩, fun _ _ _ _ _ => trivial, Nat.le_refl _, by simp [Value.ownBlock]⟩, by omega, by simp [secs]⟩

theorem used_room {w : World} {B F cap : Nat} {sz : Nat → Nat} {nt : Nat} (h : Room w B F cap sz nt) (hc : 0 < cap) :
    Calls Try.prog 24 #[.pointer (some ⟨F, 0, none⟩)] w fun e w' => e = .returned (.int .i64 (secs (sz 0) + secs (sz 1) + secs (sz 2) + secs (sz 3) : Nat)) ∧ w = w' := by
  obtain ⟨N, L, tv, ts, es, clock, st, hF, _⟩ := h.all
  exact used_ok F cap _ N L tv w hF hc

theorem tm_bounds (x m : Int) (hm : 0 < m) : -m < x.tmod m ∧ x.tmod m < m := ⟨Int.lt_tmod_of_pos x hm, Int.tmod_lt_of_pos x hm⟩
theorem tm_again (x m : Int) (hm : 0 < m) : 0 ≤ (x.tmod m + m).tmod m ∧ (x.tmod m + m).tmod m < m := by
  have h := tm_bounds x m hm
  exact ⟨Int.tmod_nonneg m (by omega), (tm_bounds _ m hm).2⟩

theorem new_cap (r : Nat) (w : World) (h : r < 40) : Calls Try.prog 9 #[.int .i64 (1 + (r : Int))] w fun e w' => e = .returned (.tuple #[.pointer (some ⟨w.heap.size + 2, 0, none⟩), .int .i64 0]) ∧ New4 (r + 1) w w' := by
  have e : (1 + (r : Int)) = ((r + 1 : Nat) : Int) := by omega
  rw [e]
  exact new_ok (r + 1) w (by omega) (by omega)

/-- What the walk is told of the second argument: it is nil, or a row of numbers. -/
def IsInts (w : World) (a : Option Addr) (len cap : Nat) (zs : List Int) : Prop :=
  (a = none ∧ len = 0 ∧ cap = 0 ∧ zs = []) ∨
  ∃ x, a = some x ∧ len ≤ cap ∧ cap ≤ maxLen ∧ zs.length = cap ∧ (∀ i, i < zs.length → w.cell? (x.add i) = some (.int .i64 (zs.getD i 0))) ∧ ∀ n ∈ zs, (Lit.int .i64 n).wf = true

set_option maxRecDepth 100000 in
set_option maxHeartbeats 400000 in
theorem room_long (a : Int) (ao : Option Addr) (len cap : Nat) (w : World) (ha : (Lit.int .i64 a).wf = true) (hl : 30 < len) (hl2 : len ≤ 9223372036854775807) :
    Calls Try.prog 7 #[.int .i64 a, .slice ao len cap] w fun e w' => e = .returned (.bool true) ∧ Below w.heap.size w w' := by
  obtain ⟨h1, h2⟩ := tm_bounds a 40 (by decide)
  obtain ⟨h3, h4⟩ := tm_again a 40 (by decide)
  obtain ⟨r, hr⟩ : ∃ r : Nat, (a.tmod 40 + 40).tmod 40 = (r : Int) := ⟨_, (Int.toNat_of_nonneg h3).symm⟩
  rw [hr] at h3 h4
  have hr2 : r < 40 := by omega
  have hl3 : (30 : Int) < (len : Int) := by omega
  go_enter Try.func7, Try.ntmps7
  go_upto_region 2 with fail
  clear h1 h2 h3 h4 hr
  go_upto_region 3 with (first
    | ((go_at_call 9; with_reducible refine (new_cap r _ hr2).mono ?_); rintro e w1 ⟨rfl, h1⟩; have H1 := Lib.hid h1; clear h1)
    | go_in)

  go_upto_region 5 with (first
    | ((go_at_call 11; with_reducible refine (no_any _ _).mono ?_); rintro e w' ⟨rfl, rfl⟩)
    | ((go_at_call 12; with_reducible refine (alive_ok _).mono ?_); rintro e w2 ⟨rfl, hb⟩; have HB := Lib.hid hb; clear hb)
    | go_in)

  go_wp2
  go_ret
  exact ⟨rfl, H1.out.below.trans (HB.out.mono H1.out.below.size)⟩
end Go.Proofs.Ytmfphnhdahaooaa
