/- The law's round: the sum over the four files, the store into the lengths. -/
import Derived.Test.YtdaipgeecmngfaaRk
import Derived.Deep.DeepCutAuto
import Derived.Deep.RegionLaw
import Derived.Deep.RegionHeld3
namespace Go.Proofs.Ytdaipgeecmngfaa
open Go.RowKit Go.Maps

def part (g : Nat → Nat) : Nat → Nat
  | 0 => 0
  | t + 1 => part g t + secs (g t)
theorem part_four (g : Nat → Nat) : part g 4 = secs (g 0) + secs (g 1) + secs (g 2) + secs (g 3) := by simp [part]
theorem part_le (g : Nat → Nat) (M : Nat) (h : ∀ i, i < 4 → g i ≤ M) : ∀ t, t ≤ 4 → part g t ≤ t * secs M := by
  intro t
  induction t with
  | zero => intro _; exact Nat.zero_le _
  | succ t ih =>
    intro ht
    have h1 := ih (by omega)
    have h2 := secs_le _ _ (h t (by omega))
    rw [part, Nat.succ_mul]
    omega

theorem Soft.toBelow {B : Nat} {w w' : World} (h : Soft B w w') : Below B w w' := ⟨h.rest.1, h.rest.2.1, h.rest.2.2, h.size, h.below⟩

/-- A store into a block of integers is none into the store's. -/
theorem Room.ints {w : World} {B F cap : Nat} {sz : Nat → Nat} {nt S i : Nat} {cs : Array Value} {f : Nat × Nat} (h : Room w B F cap sz nt) (hS : w.heap[S]? = some (.cells cs 3 f)) (v : Value) : Room (w.setCell ⟨S, i, none⟩ v) B F cap sz nt := ⟨by
  obtain ⟨N, L, tv, ts, es, clock, st, h1, h2, h3, h4, h5, h6⟩ := h.all
  have k1 : ∀ (g : Nat) (x : Obj), g ≠ S → w.heap[g]? = some x → (w.setCell ⟨S, i, none⟩ v).heap[g]? = some x := fun g x hne hx => hb_set_other hx v hne
  refine ⟨N, L, tv, ts, es, clock, st, k1 _ _ (fun e => by rw [e, hS] at h1; simp [fsCells] at h1) h1, k1 _ _ (fun e => by rw [e, hS] at h2; cases h2) h2, own_kept h3 (fun g x hg hx => k1 g x (fun e => own_ne h3 hS (by simp) (by rw [hg, e])) hx), fun j hj => ?_, h5, h6⟩
  have h7 := h4 j hj
  cases e : st j with
  | none => rw [e] at h7; exact h7
  | some f =>
    rw [e] at h7
    obtain ⟨xs, hr⟩ := h7.row
    exact Here.stays h7 (fun _ h => h) (by rw [h7.file]; exact k1 _ _ (fun e2 => by have h8 := h7.file; rw [e2, hS] at h8; simp at h8) h7.file) (fun g x hg hx => k1 g x (fun e2 => own_ne hr hS (by simp) (by rw [hg, e2])) hx), h.base, h.fits⟩

theorem sizes_upd (sz : Nat → Nat) (j q : Nat) (hj : j < 4) : (sizes sz).setIfInBounds j (.int .i64 ((sz j + q : Nat) : Int)) = sizes (upd sz j q) := by
  have h : j = 0 ∨ j = 1 ∨ j = 2 ∨ j = 3 := by omega
  rcases h with rfl | rfl | rfl | rfl <;> simp [sizes, upd]
theorem sizes_at (sz : Nat → Nat) (t : Nat) (ht : t < 4) : (sizes sz)[t]? = some (.int .i64 (sz t : Nat)) := by
  have h : t = 0 ∨ t = 1 ∨ t = 2 ∨ t = 3 := by omega
  rcases h with rfl | rfl | rfl | rfl <;> rfl

theorem name_of (j : Nat) (hj : j < 4) : (⟨#[102]⟩ : ByteArray) ++ ByteArray.empty.push (UInt8.ofNat (48 + (j : Int)).toNat) = nm j := by
  have h : j = 0 ∨ j = 1 ∨ j = 2 ∨ j = 3 := by omega
  rcases h with rfl | rfl | rfl | rfl <;> rfl
end Go.Proofs.Ytdaipgeecmngfaa
