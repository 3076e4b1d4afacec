/- The texts Gf, one behind the other. -/
import Derived.Test.YtmfphnhdahaooaaM08
import Derived.Test.YtmfphnhdahaooaaM09
set_option linter.unusedSimpArgs false
set_option linter.unusedVariables false
/- Any store: what it has, and where it lies. -/
namespace Go.Proofs.Ytmfphnhdahaooaa
open Go.RowKit Go.Maps

structure Fil where
  bv : Value
  lv : Value
  xs : List Value
  ls : List Value
structure Fs where
  cap : Nat
  used : Int
  fail : Int
  pow : Int
  off : Bool
  dir : ByteArray → Option Nat
  last : ByteArray → Option Nat
  turns : List Tn
  file : Nat → Option Fil

def OneB (xs : List Value) : Prop := ∀ u ∈ xs, ∃ c : UInt8, u = .int .u8 (c.toNat : Nat)
theorem OneB.cells {xs : List Value} (h : OneB xs) : ∀ u ∈ xs, u.oneCell' = true := by
  intro u hu
  obtain ⟨c, rfl⟩ := h u hu
  rfl

structure FilOk (w : World) (B X : Nat) (f : Fil) : Prop where
  new : B ≤ X
  block : w.heap[X]? = some (.cells #[f.bv, f.lv] 85 (0, 0))
  now : w.ownsRow B 5 1 f.bv f.xs.length f.xs
  lasts : w.ownsRow B 5 1 f.lv f.ls.length f.ls
  small : f.xs.length ≤ 1048576 ∧ f.ls.length ≤ 1048576
  bytes : OneB f.xs ∧ OneB f.ls

structure Raw (w : World) (B F : Nat) (A : Fs) (N L n m : Nat) (tv : Value) : Prop where
  store : w.heap[F]? = some (.cells (fsC A.cap A.used N L tv A.fail A.pow A.off) 82 (0, 0))
  names : NameMap w N n A.dir
  lasts : NameMap w L m A.last
  two : N ≠ L
  row : w.ownsRow B 87 4 tv A.turns.length (A.turns.flatMap Tn.cells)
  new : B ≤ F ∧ B ≤ N ∧ B ≤ L
  files : ∀ X f, A.file X = some f → FilOk w B X f
  lone : ∀ X Y f g, A.file X = some f → A.file Y = some g → (X ≠ Y → f.bv.ownBlock ≠ none → f.bv.ownBlock ≠ g.bv.ownBlock) ∧ (f.bv.ownBlock ≠ none → f.bv.ownBlock ≠ g.lv.ownBlock)
  dirs : ∀ s X, A.dir s = some X → NameP s ∧ (A.file X).isSome
  lastd : ∀ s X, A.last s = some X → NameP s ∧ (A.file X).isSome
  turn : ∀ t ∈ A.turns, t.ok ∧ (t.kind ≠ 1 → t.kind ≠ 2 → NameP t.name) ∧ (t.kind = 2 → NameP t.dst) ∧ ∀ X, t.ptr = some X → (A.file X).isSome
  caps : 0 < A.cap ∧ A.cap ≤ 4096
  nums : A.fail ≤ 9223372036854775807 ∧ A.pow ≤ 9223372036854775807

def Sto (w : World) (B F : Nat) (A : Fs) (k : Nat) : Prop := ∃ N L n m tv, Raw w B F A N L n m tv ∧ n ≤ k ∧ m + A.turns.length ≤ k ∧ -(4096 * (k : Int)) ≤ A.used ∧ A.used ≤ 4096 * (k : Int)

/-- What a call on a store may have turned. -/
structure Frm (B : Nat) (w w' : World) : Prop where
  size : w.heap.size ≤ w'.heap.size
  rest : w'.os = w.os ∧ w'.tape = w.tape ∧ w'.output = w.output
  below : ∀ b, b < B → w'.heap[b]? = w.heap[b]?
  other : ∀ (b : Nat) (cs : Array Value) (t : TypeId) (f : Nat × Nat), t ≠ 82 → t ≠ 85 → t ≠ 87 → t ≠ 5 → w.heap[b]? = some (Obj.cells cs t f) → w'.heap[b]? = some (Obj.cells cs t f)

theorem Frm.refl (B : Nat) (w : World) : Frm B w w := ⟨Nat.le_refl _, ⟨rfl, rfl, rfl⟩, fun _ _ => rfl, fun _ _ _ _ _ _ _ _ h => h⟩
theorem Frm.drewN (B : Nat) (w : World) (n : Nat) : Frm B w (w.drewN n) := ⟨Nat.le_refl _, ⟨rfl, rfl, rfl⟩, fun _ _ => rfl, fun _ _ _ _ _ _ _ _ h => h⟩
theorem Frm.trans {B : Nat} {a b c : World} (h : Frm B a b) (k : Frm B b c) : Frm B a c :=
  ⟨Nat.le_trans h.size k.size, ⟨k.rest.1.trans h.rest.1, k.rest.2.1.trans h.rest.2.1, k.rest.2.2.trans h.rest.2.2⟩, fun i hi => (k.below i hi).trans (h.below i hi), fun i cs t f h1 h2 h3 h4 hx => k.other i cs t f h1 h2 h3 h4 (h.other i cs t f h1 h2 h3 h4 hx)⟩
theorem Frm.toBelow {B : Nat} {w w' : World} (h : Frm B w w') : Below B w w' := ⟨h.rest.1, h.rest.2.1, h.rest.2.2, h.size, h.below⟩
theorem Frm.ofBelow {B : Nat} {w w' : World} (h : Below w.heap.size w w') (hB : B ≤ w.heap.size) : Frm B w w' :=
  ⟨h.size, ⟨h.os, h.tape, h.output⟩, fun b hb => h.block b (by omega), fun b cs t f _ _ _ _ hx => hb_below hx h (hb_lt hx)⟩
theorem Frm.ofGrown {B F : Nat} {w w' : World} {cs : Array Value} {t : TypeId} {f : Nat × Nat} (h : w.grownBy w' (some F)) (hF : w.heap[F]? = some (.cells cs t f)) (ht : t = 82 ∨ t = 85 ∨ t = 87 ∨ t = 5) (hB : B ≤ F) : Frm B w w' :=
  ⟨h.size, ⟨h.os, h.tape, h.output⟩, fun b hb => h.block b (by have := hb_lt hF; omega) (by simp; omega), fun b cs2 t2 f2 h1 h2 h3 h4 hx => hb_grown hx h (fun e => by
    have e2 := Option.some.inj e
    rw [e2, hF] at hx
    simp at hx
    rw [hx.2.1] at ht
    rcases ht with e | e | e | e
    · exact h1 e
    · exact h2 e
    · exact h3 e
    · exact h4 e)⟩

theorem own_base {w : World} {B B' : Nat} {e : TypeId} {size n : Nat} {v : Value} {xs : List Value} (h : w.ownsRow B e size v n xs) (hB : B' ≤ B) : w.ownsRow B' e size v n xs := by
  obtain ⟨h1, h2⟩ := h
  refine ⟨h1, ?_⟩
  rcases h2 with h | ⟨g, cap, cur, a, b, c⟩
  · exact .inl h
  · exact .inr ⟨g, cap, cur, a, Nat.le_trans hB b, c⟩

section
variable {w w' : World} {B F N L n m : Nat} {A : Fs} {tv : Value}
theorem FilOk.kept {X : Nat} {f : Fil} (h : FilOk w B X f) (hX : ∀ x, w.heap[X]? = some x → w'.heap[X]? = some x) (h1 : ∀ g x, f.bv.ownBlock = some g → w.heap[g]? = some x → w'.heap[g]? = some x)
    (h2 : ∀ g x, f.lv.ownBlock = some g → w.heap[g]? = some x → w'.heap[g]? = some x) : FilOk w' B X f :=
  ⟨h.new, hX _ h.block, own_kept h.now h1, own_kept h.lasts h2, h.small, h.bytes⟩

/-- All that was there is there. -/
theorem Raw.kept (h : Raw w B F A N L n m tv) (hk : ∀ (b : Nat) (x : Obj), w.heap[b]? = some x → w'.heap[b]? = some x) : Raw w' B F A N L n m tv :=
  { h with
    store := hk _ _ h.store
    names := h.names.kept (hk _)
    lasts := h.lasts.kept (hk _)
    row := own_kept h.row fun g x _ hx => hk g x hx
    files := fun X f hf => (h.files X f hf).kept (hk _) (fun g x _ hx => hk g x hx) (fun g x _ hx => hk g x hx) }
theorem Sto.kept {k : Nat} (h : Sto w B F A k) (hk : ∀ (b : Nat) (x : Obj), w.heap[b]? = some x → w'.heap[b]? = some x) : Sto w' B F A k := by
  obtain ⟨N, L, n, m, tv, h1, h2⟩ := h
  exact ⟨N, L, n, m, tv, h1.kept hk, h2⟩
theorem Sto.below {k : Nat} (h : Sto w B F A k) (hb : Below w.heap.size w w') : Sto w' B F A k := h.kept fun _ _ hx => hb_below hx hb (hb_lt hx)
theorem Sto.mono {k k' : Nat} (h : Sto w B F A k) (hk : k ≤ k') : Sto w B F A k' := by
  obtain ⟨N, L, n, m, tv, h1, h2, h3, h4, h5⟩ := h
  exact ⟨N, L, n, m, tv, h1, by omega, by omega, by omega, by omega⟩

def Fs.step (A : Fs) : Fs := { A with fail := near A.fail, pow := near A.pow, off := A.off || A.pow == 0 }
def Fs.code (A : Fs) : Int := stepC A.fail A.pow A.off

theorem map_ne {b c : Nat} {es : Array MapEntry} {ck : Nat} {cs : Array Value} {t : TypeId} {f : Nat × Nat} (h : w.heap[b]? = some (.map es ck)) (k : w.heap[c]? = some (.cells cs t f)) : b ≠ c := by
  intro e
  rw [e, k] at h
  cases h
theorem tag_ne {b c : Nat} {cs cs' : Array Value} {t t' : TypeId} {f f' : Nat × Nat} (h : w.heap[b]? = some (.cells cs t f)) (k : w.heap[c]? = some (.cells cs' t' f')) (ht : t ≠ t') : b ≠ c := by
  intro e
  rw [e, k] at h
  simp at h
  exact ht h.2.1.symm

/-- The store's own cells are turned, and nothing else is. -/
theorem Raw.turned (h : Raw w B F A N L n m tv) (hg : w.grownBy w' (some F)) (A' : Fs) (hs : w'.heap[F]? = some (.cells (fsC A'.cap A'.used N L tv A'.fail A'.pow A'.off) 82 (0, 0)))
    (hd : A'.dir = A.dir) (hl : A'.last = A.last) (ht : A'.turns = A.turns) (hf : A'.file = A.file) (hc : A'.cap = A.cap) (hn : A'.fail ≤ 9223372036854775807 ∧ A'.pow ≤ 9223372036854775807) : Raw w' B F A' N L n m tv := by
  have other : ∀ (b : Nat) (x : Obj), b ≠ F → w.heap[b]? = some x → w'.heap[b]? = some x := fun b x hb hx => hb_grown hx hg (fun e => hb (Option.some.inj e))
  obtain ⟨es, ck, hN⟩ := h.names.heap
  obtain ⟨ls, cl, hL⟩ := h.lasts.heap
  refine ⟨hs, by rw [hd]; exact h.names.kept (fun x hx => other _ x (map_ne hN h.store) hx), by rw [hl]; exact h.lasts.kept (fun x hx => other _ x (map_ne hL h.store) hx), h.two, ?_, h.new, ?_, by rw [hf]; exact h.lone, by rw [hd, hf]; exact h.dirs, by rw [hl, hf]; exact h.lastd, by rw [ht, hf]; exact h.turn, by rw [hc]; exact h.caps, hn⟩
  · rw [ht]
    exact own_kept h.row fun g x hg2 hx => other g x (fun e => own_ne h.row h.store (by simp) (by rw [hg2, e])) hx
  · intro X f hX
    rw [hf] at hX
    have hk := h.files X f hX
    refine hk.kept (fun x hx => other X x (tag_ne hk.block h.store (by decide)) hx) (fun g x hg2 hx => other g x (fun e => own_ne hk.now h.store (by simp) (by rw [hg2, e])) hx) (fun g x hg2 hx => other g x (fun e => own_ne hk.lasts h.store (by simp) (by rw [hg2, e])) hx)

theorem near_le {n : Int} (h : n ≤ 9223372036854775807) : near n ≤ 9223372036854775807 := by unfold near; split <;> omega
theorem Raw.step (h : Raw w B F A N L n m tv) (hs : Stepped F A.cap A.used N L tv A.fail A.pow A.off w w') : Raw w' B F A.step N L n m tv :=
  h.turned hs.grown A.step hs.store rfl rfl rfl rfl rfl ⟨near_le h.nums.1, near_le h.nums.2⟩
end
end Go.Proofs.Ytmfphnhdahaooaa
