/- The law's loop over the lengths. -/
import Derived.Test.YtdaipgeecmngfaaRj
import Derived.LoopTactic
import Derived.Deep.LoopGhost
namespace Go.Proofs.Ytdaipgeecmngfaa
open Go.RowKit Go.Maps

theorem Room.kept {w w' : World} {B F cap : Nat} {sz : Nat → Nat} {nt : Nat} (h : Room w B F cap sz nt) (hk : ∀ (j : Nat) (x : Obj), w.heap[j]? = some x → w'.heap[j]? = some x) : Room w' B F cap sz nt := ⟨by
  obtain ⟨N, L, tv, ts, es, clock, st, h1, h2, h3, h4, h5, h6⟩ := h.all
  refine ⟨N, L, tv, ts, es, clock, st, hk _ _ h1, hk _ _ h2, own_kept h3 (fun g x _ hx => hk g x hx), fun j hj => ?_, h5, h6⟩
  have h7 := h4 j hj
  cases e : st j with
  | none => rw [e] at h7; exact h7
  | some f => rw [e] at h7; exact Here.stays h7 (fun _ h => h) (by rw [h7.file]; exact hk _ _ h7.file) (fun g x _ hx => hk g x hx), h.base, h.fits⟩

def sizes (sz : Nat → Nat) : Array Value := #[.int .i64 (sz 0 : Nat), .int .i64 (sz 1 : Nat), .int .i64 (sz 2 : Nat), .int .i64 (sz 3 : Nat)]

def Inv (F c Sz : Nat) (w wr : World) (k : Nat) : Prop := ∃ sz nt, Room wr w.heap.size F c sz nt ∧ nt ≤ k ∧ (∀ i, i < 4 → sz i ≤ 3000 * k) ∧ wr.heap[Sz]? = some (.cells (sizes sz) 3 (0, 0)) ∧ Below w.heap.size w wr ∧ w.heap.size ≤ Sz

def CutR (F c j q nt : Nat) (sz : Nat → Nat) (w wr : World) (s13 : Value) (wx : World) : Prop := ∃ v ws, s13 = .int .i64 v ∧ Below wr.heap.size wr ws ∧ Wr w.heap.size F c j q nt sz ws (.returned (.int .i64 v)) wx

theorem wr_val {B F cap j k nt : Nat} {sz : Nat → Nat} {w w' : World} {e : Ending} (h : Wr B F cap j k nt sz w e w') : ∃ v : Int, e = .returned (.int .i64 v) ∧ Wr B F cap j k nt sz w (.returned (.int .i64 v)) w' := by
  rcases h with ⟨h1, rfl, h2⟩ | ⟨h1, rfl, h2⟩
  · exact ⟨0, rfl, .inl ⟨h1, rfl, h2⟩⟩
  · exact ⟨5, rfl, .inr ⟨h1, rfl, h2⟩⟩

theorem room_drew {w : World} {B F cap : Nat} {sz : Nat → Nat} {nt : Nat} (h : Room w B F cap sz nt) : Room w.drew B F cap sz nt := h.kept (fun _ _ h => h)

/-- Write in the law's round: the name's byte laid first, the noughts behind it. -/
theorem round_a (B F cap j q nt : Nat) (y : Value) (s : ByteArray) (sz : Nat → Nat) (wr : World) (hR : Room wr B F cap sz nt) (hs : s = nm j) (hj : j < 4) (hBw : B ≤ wr.heap.size) (hc0 : 0 < cap) (hc1 : cap ≤ 40) (hnt : nt ≤ 1000) (hsz : sz j ≤ 200000) (hq : q ≤ 3000) :
    Calls Try.prog 25 #[.pointer (some ⟨F, 0, none⟩), .string s, .int .i64 (sz j), .slice (some ⟨wr.heap.size + 1, 0, none⟩) q q] ((wr.alloc (.cells #[y] 5)).alloc (.cells (Array.replicate q (.int .u8 0)) 5)).drew fun e w' =>
      ∃ v : Int, e = .returned (.int .i64 v) ∧ Wr B F cap j q nt sz ((wr.alloc (.cells #[y] 5)).alloc (.cells (Array.replicate q (.int .u8 0)) 5)).drew (.returned (.int .i64 v)) w' := by
  subst hs
  refine (write_room B F cap j q nt (wr.heap.size + 1) q (0, 0) sz _ (room_drew (hR.kept fun i x h => hb_alloc (hb_alloc h _) _)) hj ?_ hc0 hc1 hnt hsz hq (Nat.le_refl _) ?_).mono fun e w' h => wr_val h
  · show B ≤ ((wr.alloc _).alloc _).heap.size
    rw [size2]; omega
  · rw [show (List.replicate q (Value.int .u8 0)).toArray = Array.replicate q (.int .u8 0) by simp]
    exact new2 wr _ _

/-- .. the noughts laid first, the name's byte behind them. -/
theorem round_b (B F cap j q nt : Nat) (y : Value) (s : ByteArray) (sz : Nat → Nat) (wr : World) (hR : Room wr B F cap sz nt) (hs : s = nm j) (hj : j < 4) (hBw : B ≤ wr.heap.size) (hc0 : 0 < cap) (hc1 : cap ≤ 40) (hnt : nt ≤ 1000) (hsz : sz j ≤ 200000) (hq : q ≤ 3000) :
    Calls Try.prog 25 #[.pointer (some ⟨F, 0, none⟩), .string s, .int .i64 (sz j), .slice (some ⟨wr.heap.size, 0, none⟩) q q] ((wr.alloc (.cells (Array.replicate q (.int .u8 0)) 5)).alloc (.cells #[y] 5)).drew fun e w' =>
      ∃ v : Int, e = .returned (.int .i64 v) ∧ Wr B F cap j q nt sz ((wr.alloc (.cells (Array.replicate q (.int .u8 0)) 5)).alloc (.cells #[y] 5)).drew (.returned (.int .i64 v)) w' := by
  subst hs
  refine (write_room B F cap j q nt wr.heap.size q (0, 0) sz _ (room_drew (hR.kept fun i x h => hb_alloc (hb_alloc h _) _)) hj ?_ hc0 hc1 hnt hsz hq (Nat.le_refl _) ?_).mono fun e w' h => wr_val h
  · show B ≤ ((wr.alloc _).alloc _).heap.size
    rw [size2]; omega
  · rw [show (List.replicate q (Value.int .u8 0)).toArray = Array.replicate q (.int .u8 0) by simp]
    exact hb_alloc (heap_alloc_new wr _) _
end Go.Proofs.Ytdaipgeecmngfaa
