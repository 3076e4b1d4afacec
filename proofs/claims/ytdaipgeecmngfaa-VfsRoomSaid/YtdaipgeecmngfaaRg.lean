/- Write at a file's end, in a store of at most four files, of whatever length, of whatever bytes, with room or without. -/
import Derived.Test.YtdaipgeecmngfaaRe
import Derived.Test.YtdaipgeecmngfaaRf
namespace Go.Proofs.Ytdaipgeecmngfaa
open Go.RowKit Go.Maps

/-- A file comes to be. -/
theorem room_new {w w' : World} {B F cap nt j k N L X c : Nat} {ao : Option Addr} {sz : Nat → Nat} {tv tv' : Value} {ts ts' : List Value} {es : Array MapEntry} {clock : Nat} {st : Nat → Option Fl} {xs : List Value}
    (hj : j < 4) (hF : w.heap[F]? = some (.cells (fsCells cap (secs (sz 0) + secs (sz 1) + secs (sz 2) + secs (sz 3) : Nat) N L tv) 82 (0, 0))) (hN : w.heap[N]? = some (.map es clock)) (hT : w.ownsRow 0 87 4 tv nt ts)
    (hA : ∀ j, j < 4 → FileIs w B es (nm j) (sz j) (st j)) (hP : ∀ i j, i < 4 → j < 4 → i ≠ j → Apart (sz i) (sz j) (st i) (st j)) (hBN : B ≤ N) (hBT : ∀ g, tv.ownBlock = some g → B ≤ g) (hBF : B ≤ F) (hBw : B ≤ w.heap.size)
    (hst : st j = none) (hfit : secs (sz 0) + secs (sz 1) + secs (sz 2) + secs (sz 3) + secs k ≤ cap)
    (gF : w'.heap[F]? = some (.cells (fsCells cap (secs (sz 0) + secs (sz 1) + secs (sz 2) + secs (sz 3) + secs k : Nat) N L tv') 82 (0, 0))) (gT : w'.ownsRow 0 87 4 tv' (nt + 1) ts')
    (gN : w'.heap[N]? = some (.map (es.push ⟨.string (nm j), .pointer (some ⟨X, 0, none⟩), clock⟩) (clock + 1))) (gX : w'.heap[X]? = some (.cells #[.slice ao k c, .slice none 0 0] 85 (0, 0)))
    (gB : w'.ownsRow 0 5 1 (.slice ao k c) k xs) (gXl : w.heap.size ≤ X) (gbl : ∀ g, (Value.slice ao k c).ownBlock = some g → w.heap.size ≤ g)
    (gtl : tv'.ownBlock = tv.ownBlock ∨ ∃ g, tv'.ownBlock = some g ∧ w.heap.size ≤ g) (gs : w.heap.size ≤ w'.heap.size) (gr : w'.os = w.os ∧ w'.tape = w.tape ∧ w'.output = w.output)
    (gk : ∀ j x, j ≠ N → j ≠ F → some j ≠ tv.ownBlock → w.heap[j]? = some x → w'.heap[j]? = some x) :
    Room w' B F cap (upd sz j k) (nt + 1) ∧ Soft B w w' := by
  have hj0 : Finds es (nm j) none ∧ sz j = 0 := by have := hA j hj; rw [hst] at this; exact this
  have hs0 : secs (sz j) = 0 := by rw [hj0.2]; rfl
  have hsum : secs (upd sz j k 0) + secs (upd sz j k 1) + secs (upd sz j k 2) + secs (upd sz j k 3) = secs (sz 0) + secs (sz 1) + secs (sz 2) + secs (sz 3) + secs k := by
    rw [sum_upd sz j k hj, hs0, hj0.2, Nat.zero_add, Nat.sub_zero]
  refine ⟨⟨⟨N, L, tv', ts', _, _, fun i => if i = j then some ⟨X, ao, c⟩ else st i, ?_, gN, gT, ?_, ?_, hBN, ?_⟩, hBF, by rw [hsum]; exact hfit⟩, gs, gr, ?_, ?_⟩
  · rw [hsum]
    exact gF
  · intro i hi
    by_cases e : i = j
    · subst e
      rw [upd_same, hj0.2, Nat.zero_add]
      simp only [if_true]
      exact ⟨⟨_, hj0.1.push_same _ _⟩, gX, ⟨_, gB⟩, by show B ≤ X; omega, fun g hg => by have := gbl g hg; omega⟩
    · rw [upd_other sz k e]
      simp only [if_neg e]
      have h := hA i hi
      have hn := nm_ne i j hi hj e
      cases es1 : st i with
      | none =>
        rw [es1] at h
        exact ⟨h.1.push_other hn _ _, h.2⟩
      | some g =>
        rw [es1] at h
        obtain ⟨ys, hr⟩ := h.row
        refine Here.stays h (fun r hr => hr.push_other hn _ _) ?_ ?_
        · rw [h.file]
          exact gk g.X _ (fun e => by have h1 := h.file; rw [e, hN] at h1; cases h1) (fun e => by have h1 := h.file; rw [e, hF] at h1; simp [fsCells] at h1) (own_ne hT h.file (by simp [Fl.val])) h.file
        · intro b x hb hx
          refine gk b x (fun e => own_ne hr hN (by simp) (by rw [hb, e])) (fun e => own_ne hr hF (by simp) (by rw [hb, e])) (fun e => ?_) hx
          rcases hr.2 with ⟨h1, _⟩ | ⟨g2, cp, cur, h1, _, h2, _⟩
          · rw [h1] at hb; cases hb
          · rw [h1] at hb
            obtain rfl : g2 = b := by simpa [Value.ownBlock] using hb
            exact own_ne hT h2 (by simp) e
  · intro i l hi hl hne
    have ha := hP i l hi hl hne
    by_cases e1 : i = j
    · subst e1
      have e2 : l ≠ i := Ne.symm hne
      simp only [if_true, if_neg e2, upd_same, upd_other sz k e2, hj0.2, Nat.zero_add]
      cases es1 : st l with
      | none => trivial
      | some g =>
        have hl2 := hA l hl
        rw [es1] at hl2
        obtain ⟨ys, hr⟩ := hl2.row
        refine ⟨by have := hb_lt hl2.file; show X ≠ g.X; omega, fun b hb hb2 => ?_⟩
        have h1 := gbl b hb
        have h2 := (hr.lt b hb2).2
        omega
    · by_cases e2 : l = j
      · subst e2
        simp only [if_true, if_neg e1, upd_same, upd_other sz k e1, hj0.2, Nat.zero_add]
        cases es1 : st i with
        | none => trivial
        | some g =>
          have hl2 := hA i hi
          rw [es1] at hl2
          obtain ⟨ys, hr⟩ := hl2.row
          refine ⟨by have := hb_lt hl2.file; show g.X ≠ X; omega, fun b hb hb2 => ?_⟩
          have h1 := gbl b hb2
          have h2 := (hr.lt b hb).2
          omega
      · simp only [if_neg e1, if_neg e2, upd_other sz k e1, upd_other sz k e2]
        exact ha
  · intro g hg
    rcases gtl with h | ⟨g2, h, h2⟩
    · exact hBT g (by rw [← h]; exact hg)
    · rw [h] at hg
      obtain rfl := Option.some.inj hg
      omega
  · intro b hb
    have hl : b < w.heap.size := by omega
    have hx : w.heap[b]? = some w.heap[b] := Array.getElem?_eq_getElem hl
    rw [hx]
    exact gk b _ (by omega) (by omega) (fun e => by have := hBT b e.symm; omega) hx
  · intro b cs fr hb
    exact gk b _ (fun e => by rw [e, hN] at hb; cases hb) (fun e => by rw [e, hF] at hb; simp at hb) (own_ne hT hb (by simp)) hb
end Go.Proofs.Ytdaipgeecmngfaa
