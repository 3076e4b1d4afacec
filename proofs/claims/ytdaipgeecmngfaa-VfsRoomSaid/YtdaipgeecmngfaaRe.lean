/- A store of at most four files, of which nothing but the lengths is told; Write at a file's end keeps it so, with the length that is asked, where there is room; else nothing is turned. -/
import Derived.Test.YtdaipgeecmngfaaRd
namespace Go.Proofs.Ytdaipgeecmngfaa
open Go.RowKit Go.Maps

def nm (j : Nat) : ByteArray := ⟨#[102, UInt8.ofNat (48 + j)]⟩
theorem nm_ne : ∀ i j : Nat, i < 4 → j < 4 → i ≠ j → nm i ≠ nm j := by
  have h : ∀ i j : Fin 4, i ≠ j → (nm i).data ≠ (nm j).data := by decide
  intro i j hi hj hne e
  exact h ⟨i, hi⟩ ⟨j, hj⟩ (fun e2 => hne (by simpa using e2)) (by rw [e])
theorem nm_size (j : Nat) : (nm j).size = 2 := rfl
theorem nm_ok (j : Nat) (hj : j < 4) : ∀ (k : Nat) (hk : k < (nm j).size), NameB (nm j)[k] := by
  intro k hk
  rw [nm_size] at hk
  have h0 : NameB 102 := .inl ⟨by decide, by decide⟩
  have h1 : ∀ j : Fin 4, 48 ≤ ((UInt8.ofNat (48 + j)).toNat : Int) ∧ ((UInt8.ofNat (48 + j)).toNat : Int) ≤ 57 := by decide
  rcases Nat.lt_or_ge k 1 with h | h
  · obtain rfl : k = 0 := by omega
    exact h0
  · obtain rfl : k = 1 := by omega
    exact .inr (h1 ⟨j, hj⟩)

structure Fl where
  X : Nat
  ao : Option Addr
  cb : Nat
def Fl.val (f : Fl) (m : Nat) : Value := .slice f.ao m f.cb

structure Here (w : World) (B : Nat) (es : Array MapEntry) (s : ByteArray) (m : Nat) (f : Fl) : Prop where
  found : ∃ idx, Finds es s (some (idx, .pointer (some ⟨f.X, 0, none⟩)))
  file : w.heap[f.X]? = some (.cells #[f.val m, .slice none 0 0] 85 (0, 0))
  row : ∃ xs, w.ownsRow 0 5 1 (f.val m) m xs
  newer : B ≤ f.X ∧ ∀ g, (f.val m).ownBlock = some g → B ≤ g

def FileIs (w : World) (B : Nat) (es : Array MapEntry) (s : ByteArray) (m : Nat) : Option Fl → Prop
  | none => Finds es s none ∧ m = 0
  | some f => Here w B es s m f

def Apart (m m2 : Nat) : Option Fl → Option Fl → Prop
  | some f, some g => f.X ≠ g.X ∧ ∀ b, (f.val m).ownBlock = some b → (g.val m2).ownBlock ≠ some b
  | _, _ => True

def secs (m : Nat) : Nat := (m + 511) / 512

structure Room (w : World) (B F cap : Nat) (sz : Nat → Nat) (nt : Nat) : Prop where
  all : ∃ (N L : Nat) (tv : Value) (ts : List Value) (es : Array MapEntry) (clock : Nat) (st : Nat → Option Fl), w.heap[F]? = some (.cells (fsCells cap (secs (sz 0) + secs (sz 1) + secs (sz 2) + secs (sz 3) : Nat) N L tv) 82 (0, 0)) ∧ w.heap[N]? = some (.map es clock) ∧ w.ownsRow 0 87 4 tv nt ts ∧
    (∀ j, j < 4 → FileIs w B es (nm j) (sz j) (st j)) ∧ (∀ i j, i < 4 → j < 4 → i ≠ j → Apart (sz i) (sz j) (st i) (st j)) ∧ B ≤ N ∧ (∀ g, tv.ownBlock = some g → B ≤ g)
  base : B ≤ F
  fits : secs (sz 0) + secs (sz 1) + secs (sz 2) + secs (sz 3) ≤ cap

/-- What a step may have turned: what lies below B, and blocks of integers, are as they were. -/
structure Soft (B : Nat) (w w' : World) : Prop where
  size : w.heap.size ≤ w'.heap.size
  rest : w'.os = w.os ∧ w'.tape = w.tape ∧ w'.output = w.output
  below : ∀ b, b < B → w'.heap[b]? = w.heap[b]?
  ints : ∀ (b : Nat) (cs : Array Value) (f : Nat × Nat), w.heap[b]? = some (Obj.cells cs 3 f) → w'.heap[b]? = some (Obj.cells cs 3 f)

def upd (sz : Nat → Nat) (j k : Nat) : Nat → Nat := fun i => if i = j then sz i + k else sz i
theorem upd_same (sz : Nat → Nat) (j k : Nat) : upd sz j k j = sz j + k := by simp [upd]
theorem upd_other (sz : Nat → Nat) {i j : Nat} (k : Nat) (h : i ≠ j) : upd sz j k i = sz i := by simp [upd, h]

theorem own_val {w : World} {b : Nat} {e : TypeId} {size n : Nat} {v : Value} {xs : List Value} (h : w.ownsRow b e size v n xs) : ∃ ao c, v = .slice ao n c ∧ n ≤ c := by
  rcases h.2 with ⟨rfl, rfl⟩ | ⟨g, cap, cur, rfl, _, _, hc, _⟩
  · exact ⟨none, 0, rfl, Nat.le_refl _⟩
  · exact ⟨_, cap, rfl, hc⟩

theorem secs_le (a b : Nat) (h : a ≤ b) : secs a ≤ secs b := by unfold secs; omega

/-- A file that is another one stays, where its blocks do. -/
theorem Here.stays {w w' : World} {B : Nat} {es es' : Array MapEntry} {s : ByteArray} {m : Nat} {f : Fl} (h : Here w B es s m f) (hf : ∀ r, Finds es s r → Finds es' s r)
    (hX : w'.heap[f.X]? = w.heap[f.X]?) (hR : ∀ g x, (f.val m).ownBlock = some g → w.heap[g]? = some x → w'.heap[g]? = some x) : Here w' B es' s m f := by
  obtain ⟨⟨idx, h1⟩, h2, ⟨xs, h3⟩, h4⟩ := h
  exact ⟨⟨idx, hf _ h1⟩, by rw [hX, h2], ⟨xs, own_kept h3 hR⟩, h4⟩

theorem Soft.drewN (B : Nat) (w : World) (n : Nat) : Soft B w (w.drewN n) := ⟨Nat.le_refl _, ⟨rfl, rfl, rfl⟩, fun _ _ => rfl, fun _ _ _ h => h⟩
theorem Room.drewN {w : World} {B F cap : Nat} {sz : Nat → Nat} {nt : Nat} (h : Room w B F cap sz nt) (n : Nat) : Room (w.drewN n) B F cap sz nt := ⟨by
  obtain ⟨N, L, tv, ts, es, clock, st, h1, h2, h3, h4, h5, h6⟩ := h.all
  refine ⟨N, L, tv, ts, es, clock, st, h1, h2, h3, fun j hj => ?_, h5, h6⟩
  have := h4 j hj
  cases e : st j with
  | none => rw [e] at this; exact this
  | some f => rw [e] at this; exact ⟨this.found, this.file, this.row, this.newer⟩, h.base, h.fits⟩

theorem sum_upd (sz : Nat → Nat) (j k : Nat) (hj : j < 4) :
    secs (upd sz j k 0) + secs (upd sz j k 1) + secs (upd sz j k 2) + secs (upd sz j k 3) = secs (sz 0) + secs (sz 1) + secs (sz 2) + secs (sz 3) - secs (sz j) + secs (sz j + k) := by
  have h : j = 0 ∨ j = 1 ∨ j = 2 ∨ j = 3 := by omega
  rcases h with rfl | rfl | rfl | rfl <;> simp [upd] <;> omega

/-- A file that is there grows. -/
theorem room_old {w w' : World} {B F cap nt j k N L idx : Nat} {sz : Nat → Nat} {tv : Value} {ts : List Value} {es : Array MapEntry} {clock : Nat} {st : Nat → Option Fl} {f : Fl} {xs news : List Value}
    (hj : j < 4) (hF : w.heap[F]? = some (.cells (fsCells cap (secs (sz 0) + secs (sz 1) + secs (sz 2) + secs (sz 3) : Nat) N L tv) 82 (0, 0))) (hN : w.heap[N]? = some (.map es clock)) (hT : w.ownsRow 0 87 4 tv nt ts)
    (hA : ∀ j, j < 4 → FileIs w B es (nm j) (sz j) (st j)) (hP : ∀ i j, i < 4 → j < 4 → i ≠ j → Apart (sz i) (sz j) (st i) (st j)) (hBN : B ≤ N) (hBT : ∀ g, tv.ownBlock = some g → B ≤ g) (hBF : B ≤ F) (hBw : B ≤ w.heap.size)
    (hst : st j = some f) (hfound : Finds es (nm j) (some (idx, .pointer (some ⟨f.X, 0, none⟩)))) (hrow : w.ownsRow 0 5 1 (f.val (sz j)) (sz j) xs)
    (hfit : secs (sz 0) + secs (sz 1) + secs (sz 2) + secs (sz 3) - secs (sz j) + secs (sz j + k) ≤ cap)
    (hG : Grew F N L cap (secs (sz 0) + secs (sz 1) + secs (sz 2) + secs (sz 3) - secs (sz j) + secs (sz j + k)) tv f.X (f.val (sz j)) (.slice none 0 0) (sz j) k xs news w w') :
    Room w' B F cap (upd sz j k) nt ∧ Soft B w w' := by
  have hH : Here w B es (nm j) (sz j) f := by have := hA j hj; rw [hst] at this; exact this
  obtain ⟨bv, hX2, hB2, hloc⟩ := hG.own
  obtain ⟨ao, c, rfl, hmc⟩ := own_val hB2
  have hXF : f.X ≠ F := fun e => by have h1 := hH.file; rw [e, hF] at h1; simp [fsCells] at h1
  have hTX : some f.X ≠ tv.ownBlock := own_ne hT hH.file (by simp)
  have hTF : some F ≠ tv.ownBlock := own_ne hT hF (by simp)
  refine ⟨⟨⟨N, L, tv, ts, es, clock, fun i => if i = j then some ⟨f.X, ao, c⟩ else st i, ?_, ?_, ?_, ?_, ?_, hBN, hBT⟩, hBF, by rw [sum_upd sz j k hj]; exact hfit⟩, hG.size, hG.rest, ?_, ?_⟩
  · rw [sum_upd sz j k hj]
    exact hG.store
  · exact hG.kept N _ (fun e => by have h1 := hH.file; rw [← e, hN] at h1; cases h1) (fun e => by rw [e, hF] at hN; cases hN) (own_ne hrow hN (by simp)) hN
  · refine own_kept hT fun g x hg hx => hG.kept g x (fun e => hTX (by rw [hg, e])) (fun e => hTF (by rw [hg, e])) (fun e => ?_) hx
    rcases hT.2 with ⟨rfl, _⟩ | ⟨g2, cp, cur, rfl, _, h1, _⟩
    · cases hg
    · obtain rfl : g2 = g := by simpa [Value.ownBlock] using hg
      exact own_ne hrow h1 (by simp) e
  · intro i hi
    by_cases e : i = j
    · subst e
      rw [upd_same]
      simp only [if_true]
      exact ⟨⟨idx, hfound⟩, hX2, ⟨_, hB2⟩, hH.newer.1, fun g hg => by
        rcases hloc with h | ⟨g2, h, h2⟩
        · exact hH.newer.2 g (by rw [← h]; exact hg)
        · have : g = g2 := by rw [show (Fl.val ⟨f.X, ao, c⟩ (sz i + k)).ownBlock = some g2 from h] at hg; exact (Option.some.inj hg).symm
          omega⟩
    · rw [upd_other sz k e]
      simp only [if_neg e]
      have h := hA i hi
      have ha := hP i j hi hj e
      cases es1 : st i with
      | none => rw [es1] at h; exact h
      | some g =>
        rw [es1] at h
        rw [es1, hst] at ha
        refine Here.stays h (fun r hr => hr) ?_ ?_
        · rw [h.file]
          exact hG.kept g.X _ ha.1 (fun e => by have h1 := h.file; rw [e, hF] at h1; simp [fsCells] at h1) (own_ne hrow h.file (by simp)) h.file
        · intro b x hb hx
          obtain ⟨ys, hr⟩ := h.row
          exact hG.kept b x (fun e => own_ne hr hH.file (by simp) (by rw [hb, e])) (fun e => own_ne hr hF (by simp) (by rw [hb, e])) (fun e => ha.2 b hb e.symm) hx
  · intro i l hi hl hne
    have ha := hP i l hi hl hne
    by_cases e1 : i = j
    · subst e1
      have e2 : l ≠ i := Ne.symm hne
      simp only [if_true, if_neg e2, upd_same, upd_other sz k e2]
      cases es1 : st l with
      | none => trivial
      | some g =>
        rw [es1, hst] at ha
        refine ⟨ha.1, fun b hb hb2 => ?_⟩
        have hl2 := hA l hl
        rw [es1] at hl2
        obtain ⟨ys, hr⟩ := hl2.row
        rcases hloc with h | ⟨g2, h, h2⟩
        · exact ha.2 b (by rw [← h]; exact hb) hb2
        · have hbg : b = g2 := by rw [show (Fl.val ⟨f.X, ao, c⟩ (sz i + k)).ownBlock = some g2 from h] at hb; exact (Option.some.inj hb).symm
          have := (hr.lt b hb2).2
          omega
    · by_cases e2 : l = j
      · subst e2
        simp only [if_true, if_neg e1, upd_same, upd_other sz k e1]
        cases es1 : st i with
        | none => trivial
        | some g =>
          rw [es1, hst] at ha
          refine ⟨ha.1, fun b hb hb2 => ?_⟩
          have hl2 := hA i hi
          rw [es1] at hl2
          obtain ⟨ys, hr⟩ := hl2.row
          rcases hloc with h | ⟨g2, h, h2⟩
          · exact ha.2 b hb (by rw [← h]; exact hb2)
          · have hbg : b = g2 := by rw [show (Fl.val ⟨f.X, ao, c⟩ (sz l + k)).ownBlock = some g2 from h] at hb2; exact (Option.some.inj hb2).symm
            have := (hr.lt b hb).2
            omega
      · simp only [if_neg e1, if_neg e2, upd_other sz k e1, upd_other sz k e2]
        exact ha
  · intro b hb
    have hl : b < w.heap.size := by omega
    have hx : w.heap[b]? = some w.heap[b] := Array.getElem?_eq_getElem hl
    rw [hx]
    exact hG.kept b _ (by have := hH.newer.1; omega) (by omega) (fun e => by have := hH.newer.2 b e.symm; omega) hx
  · intro b cs fr hb
    exact hG.kept b _ (fun e => by have h1 := hH.file; rw [← e, hb] at h1; simp at h1) (fun e => by rw [e, hF] at hb; simp at hb) (own_ne hrow hb (by simp)) hb
end Go.Proofs.Ytdaipgeecmngfaa
