/- A new store has no file; how many sectors a store of four files has; the law's remainders. -/
import Derived.Test.YtdaipgeecmngfaaRh
import Derived.Test.YtdaipgeecmngfaaVv
namespace Go.Proofs.Ytdaipgeecmngfaa
open Go.RowKit Go.Maps

theorem room_start {n : Nat} {w w1 : World} (h : New4 n w w1) : Room w1 w.heap.size (w.heap.size + 2) n (fun _ => 0) 0 :=
  ⟨⟨w.heap.size, w.heap.size + 1, .slice none 0 0, [], #[], 0, fun _ => none, h.store, h.names, World.ownsRow_nil _ _ _ _, fun _ _ => ⟨rfl, rfl⟩, fun _ _ _ _ _ => trivial, Nat.le_refl _, by simp [Value.ownBlock]⟩, by omega, by simp [secs]⟩

theorem used_room {w : World} {B F cap : Nat} {sz : Nat → Nat} {nt : Nat} (h : Room w B F cap sz nt) (hc : 0 < cap) :
    Calls Try.prog 24 #[.pointer (some ⟨F, 0, none⟩)] w fun e w' => e = .returned (.int .i64 (secs (sz 0) + secs (sz 1) + secs (sz 2) + secs (sz 3) : Nat)) ∧ w = w' := by
  obtain ⟨N, L, tv, ts, es, clock, st, hF, _⟩ := h.all
  exact used_ok F cap _ N L tv w hF hc

theorem tm_bounds (x m : Int) (hm : 0 < m) : -m < x.tmod m ∧ x.tmod m < m := ⟨Int.lt_tmod_of_pos x hm, Int.tmod_lt_of_pos x hm⟩
theorem tm_again (x m : Int) (hm : 0 < m) : 0 ≤ (x.tmod m + m).tmod m ∧ (x.tmod m + m).tmod m < m := by
  have h := tm_bounds x m hm
  exact ⟨Int.tmod_nonneg m (by omega), (tm_bounds _ m hm).2⟩

theorem new_cap (r : Nat) (w : World) (h : r < 40) : Calls Try.prog 9 #[.int .i64 (1 + (r : Int))] w fun e w' => e = .returned (.tuple #[.pointer (some ⟨w.heap.size + 2, 0, none⟩), .int .i64 0]) ∧ New4 (r + 1) w w' := by
  have e : (1 + (r : Int)) = ((r + 1 : Nat) : Int) := by omega
  rw [e]
  exact new_ok (r + 1) w (by omega) (by omega)

/-- What the walk is told of the second argument: it is nil, or a row of numbers. -/
def IsInts (w : World) (a : Option Addr) (len cap : Nat) (zs : List Int) : Prop :=
  (a = none ∧ len = 0 ∧ cap = 0 ∧ zs = []) ∨
  ∃ x, a = some x ∧ len ≤ cap ∧ cap ≤ maxLen ∧ zs.length = cap ∧ (∀ i, i < zs.length → w.cell? (x.add i) = some (.int .i64 (zs.getD i 0))) ∧ ∀ n ∈ zs, (Lit.int .i64 n).wf = true

set_option maxRecDepth 100000 in
set_option maxHeartbeats 400000 in
theorem room_long (a : Int) (ao : Option Addr) (len cap : Nat) (w : World) (ha : (Lit.int .i64 a).wf = true) (hl : 30 < len) (hl2 : len ≤ 9223372036854775807) :
    Calls Try.prog 7 #[.int .i64 a, .slice ao len cap] w fun e w' => e = .returned (.bool true) ∧ Below w.heap.size w w' := by
  obtain ⟨h1, h2⟩ := tm_bounds a 40 (by decide)
  obtain ⟨h3, h4⟩ := tm_again a 40 (by decide)
  obtain ⟨r, hr⟩ : ∃ r : Nat, (a.tmod 40 + 40).tmod 40 = (r : Int) := ⟨_, (Int.toNat_of_nonneg h3).symm⟩
  rw [hr] at h3 h4
  have hr2 : r < 40 := by omega
  have hl3 : (30 : Int) < (len : Int) := by omega
  go_enter Try.func7, Try.ntmps7
  go_upto_region 2 with fail
  clear h1 h2 h3 h4 hr
  go_upto_region 3 with (first
    | ((go_at_call 9; with_reducible refine (new_cap r _ hr2).mono ?_); rintro e w1 ⟨rfl, h1⟩; have H1 := Lib.hid h1; clear h1)
    | go_in)

  go_upto_region 5 with (first
    | ((go_at_call 11; with_reducible refine (no_any _ _).mono ?_); rintro e w' ⟨rfl, rfl⟩)
    | ((go_at_call 12; with_reducible refine (alive_ok _).mono ?_); rintro e w2 ⟨rfl, hb⟩; have HB := Lib.hid hb; clear hb)
    | go_in)

  go_wp2
  go_ret
  exact ⟨rfl, H1.out.below.trans (HB.out.mono H1.out.below.size)⟩
end Go.Proofs.Ytdaipgeecmngfaa
