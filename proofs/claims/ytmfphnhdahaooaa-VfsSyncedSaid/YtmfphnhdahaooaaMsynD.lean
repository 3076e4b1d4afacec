/- VfsSynced: what stays; the walk. -/
import Derived.Test.YtmfphnhdahaooaaM36
import Derived.Test.YtmfphnhdahaooaaMsynC
set_option linter.unusedSimpArgs false
set_option linter.unusedVariables false
namespace Go.Proofs.Ytmfphnhdahaooaa
open Go.RowKit Go.Maps
set_option linter.unusedSimpArgs false
set_option linter.unusedVariables false
/-- A name that is there, with bytes that last. -/
structure Held (name : ByteArray) (X : Nat) (xs : List Value) (A : Fs) : Prop where
  dir : A.dir name = some X
  last : A.last name = some X
  file : ∃ f, A.file X = some f ∧ f.xs = xs ∧ f.ls = xs
  sum : SumD A.used A.dir A.file
theorem Held.did {name : ByteArray} {X : Nat} {xs : List Value} {A A' : Fs} {a : Ac} {w : World} {B F k : Nat} (h : Held name X xs A) (hd : DidR a A A') (hS : Sto w B F A k) (hk : a.kind ≤ 2) (hn : a.name ≠ name) : Held name X xs A' := by
  have hs := hd.sum hS h.sum
  have hne : ∀ Y, A.dir a.name = some Y → Y ≠ X := fun Y hY e => hn (h.sum.inj _ _ X (by rw [hY, e]) h.dir)
  obtain ⟨f, hf, h1, h2⟩ := h.file
  rcases hd with rfl | rfl | ⟨_, h3⟩ | ⟨h3, _⟩ | ⟨h3, _⟩ | ⟨h3, _⟩
  · exact h
  · exact ⟨h.dir, h.last, h.file, hs⟩
  · rcases h3 with ⟨_, news, _, _, h3⟩ | ⟨_, h3⟩ | ⟨h3, _⟩ | ⟨h3, _⟩ | ⟨h3, _⟩ | ⟨h3, _⟩
    · rcases h3 with ⟨Y, g, bv, hY, hg, _, rfl⟩ | ⟨Y, bv, _, hY, _, hg, rfl⟩
      · exact ⟨h.dir, h.last, ⟨f, by show updF A.file Y _ X = some f; unfold updF; rw [if_neg (Ne.symm (hne Y hY))]; exact hf, h1, h2⟩, hs⟩
      · have hYX : X ≠ Y := fun e => by
          have hg2 : A.file Y = none := hg
          rw [← e, hf] at hg2
          cases hg2
        exact ⟨by show upN A.dir a.name _ name = some X; unfold upN; rw [if_neg (Ne.symm hn)]; exact h.dir, h.last, ⟨f, by show updF A.file Y _ X = some f; unfold updF; rw [if_neg hYX]; exact hf, h1, h2⟩, hs⟩
    · obtain ⟨Y, g, bv, hY, hg, _, rfl⟩ := h3
      exact ⟨h.dir, h.last, ⟨f, by show updF A.file Y _ X = some f; unfold updF; rw [if_neg (Ne.symm (hne Y hY))]; exact hf, h1, h2⟩, hs⟩
    all_goals omega
  all_goals omega
/-- Bytes that were read, and are no file's. -/
structure WasI (w : World) (A : Fs) (v : Value) (xs : List Value) : Prop where
  own : w.ownsRow 0 5 1 v xs.length xs
  away : ∀ g, v.ownBlock = some g → Away g A
theorem WasI.on {w w' : World} {A A' : Fs} {v : Value} {xs : List Value} (h : WasI w A v xs) (hk : K5 A A' w w') : WasI w' A' v xs := by
  have key : ∀ g, v.ownBlock = some g → ∃ cs fr, w.heap[g]? = some (.cells cs 5 fr) ∧ w'.heap[g]? = some (.cells cs 5 fr) ∧ Away g A' := fun g hg => by
    obtain ⟨cs, fr, hb⟩ := own_tag h.own g hg
    obtain ⟨h1, h2⟩ := hk g cs fr hb (h.away g hg)
    exact ⟨cs, fr, hb, h1, h2⟩
  refine ⟨own_kept h.own fun g x hg hx => ?_, fun g hg => ?_⟩
  · obtain ⟨cs, fr, h1, h2, _⟩ := key g hg
    rw [h1] at hx
    obtain rfl := Option.some.inj hx
    exact h2
  · obtain ⟨_, _, _, _, h3⟩ := key g hg
    exact h3
theorem stepC_off {fail pow : Int} {off : Bool} (h : stepC fail pow off = 0) : (off || pow == 0) = false := by
  unfold stepC at h
  split at h
  · cases h
  · rename_i h1
    simpa using h1
def acOf (k : Int) (s : ByteArray) : Ac := ⟨k, s, ⟨#[]⟩, 0, 0, 0, none, [], 0, none, [], 0⟩
/-- What Fsync and SyncDir leave. -/
theorem held_of {w w1 : World} {B F k k1 q : Nat} {A A1 A2 : Fs} {name : ByteArray} (hS : Sto w B F A k) (hS1 : Sto w1 B F A1 k1) (hg : Good A q) (hc : A.code = 0) (hf : FsyncR name A.step A1) (hc1 : A1.code = 0) (hs : SyncR A1.step A2) : ∃ X xs, Held name X xs A2 ∧ A2.off = false ∧ rdL A2 name = xs := by
  have d1 : DidR (acOf 3 name) A A1 := .inr (.inr (.inl ⟨hc, .inr (.inr (.inl ⟨rfl, hf⟩))⟩))
  have d2 : DidR (acOf 6 name) A1 A2 := .inr (.inr (.inl ⟨hc1, .inr (.inr (.inr (.inr (.inr ⟨rfl, hs⟩))))⟩))
  have g1 := d1.good hS hg
  have g2 := d2.good hS1 g1
  have hoff : A2.off = false := by
    rw [show A2 = { A1.step with last := A1.step.turns.foldl appT A1.step.last, turns := [] } from hs]
    exact stepC_off hc1
  obtain ⟨X, f, lv, hd, hX, h1⟩ := hf
  have e1 : A1.dir = A.dir := by rw [h1]; rfl
  have e2 : A2.dir = A1.dir := by rw [show A2 = _ from hs]; rfl
  have e3 : A2.last = A1.dir := by
    rw [show A2 = { A1.step with last := A1.step.turns.foldl appT A1.step.last, turns := [] } from hs]
    exact g1.dirt.symm
  have e4 : A2.file X = some { f with lv := lv, ls := f.xs } := by
    rw [show A2 = { A1.step with last := A1.step.turns.foldl appT A1.step.last, turns := [] } from hs]
    show A1.file X = _
    rw [h1]
    show updF _ X _ X = _
    simp [updF]
  have hd2 : A2.dir name = some X := by rw [e2, e1]; exact hd
  exact ⟨X, f.xs, ⟨hd2, by rw [e3, e1]; exact hd, ⟨_, e4, rfl, rfl⟩, g2.sum⟩, hoff, rdL_some (f := { f with lv := lv, ls := f.xs }) hoff hd2 e4⟩
theorem acFiles {w : World} {fo : Option Addr} {fl : List Sv} {fc : Nat} (h : RowF w fo fl) (hl : fl.length ≤ maxLen) : AcArg w ⟨0, ⟨#[]⟩, ⟨#[]⟩, 0, 0, 0, none, [], 0, fo, fl, fc⟩ :=
  ⟨⟨show NumOk 0 by unfold NumOk; omega, show NumOk 0 by unfold NumOk; omega⟩, Nat.zero_le _, Nat.zero_le _, fun i z hz => by simp at hz, Nat.zero_le _, h, hl⟩
theorem pair_below (n : Int) (F : Nat) (w : World) : Below w.heap.size w ((w.alloc (.cells #[.int .i64 n, .slice none 0 0, .slice none 0 0, .slice none 0 0, .slice none 0 0, .int .i64 (-1), .int .i64 (-1), .bool false] 52)).alloc (.cells #[.pointer (some ⟨F, 0, none⟩), .pointer (some ⟨w.heap.size, 0, none⟩)] 35)) :=
  (below_alloc w _).alloc (by simp) _
/-- The program's store beside a fresh one of the document's. -/
theorem pair_start {w : World} {B F k : Nat} {A : Fs} {n : Int} (h : Sto w B F A k) : PairS ((w.alloc (.cells #[.int .i64 n, .slice none 0 0, .slice none 0 0, .slice none 0 0, .slice none 0 0, .int .i64 (-1), .int .i64 (-1), .bool false] 52)).alloc (.cells #[.pointer (some ⟨F, 0, none⟩), .pointer (some ⟨w.heap.size, 0, none⟩)] 35)) B (w.heap.size + 1) F w.heap.size A k := by
  have hB : B ≤ w.heap.size := by have := h.lt; omega
  have hR := Ref.fresh w B k n hB
  have e : (w.alloc (.cells (rsC n (.slice none 0 0) (.slice none 0 0) (.slice none 0 0) (.slice none 0 0) (-1) (-1) false) 52)).heap.size = w.heap.size + 1 := by simp
  refine ⟨?_, (h.kept fun b x hx => hb_alloc hx _).kept fun b x hx => hb_alloc hx _, ⟨_, _, _, _, _, _, _, _, _, hR.kept fun b cs t f _ hx => hb_alloc hx _⟩, by omega⟩
  have := hb_new (w.alloc (.cells (rsC n (.slice none 0 0) (.slice none 0 0) (.slice none 0 0) (.slice none 0 0) (-1) (-1) false) 52)) (.cells #[.pointer (some ⟨F, 0, none⟩), .pointer (some ⟨w.heap.size, 0, none⟩)] 35)
  rw [e] at this
  exact this
theorem Held.crash {name : ByteArray} {X : Nat} {xs : List Value} {A A2 : Fs} {gt : ByteArray → Option Sv} {gd : ByteArray → Option Nat} {j : Nat} (h : Held name X xs A) (hC : Crashed gt gd A (fun _ => false) A2 j) (hg : gd = A.last) : rdL A2 name = xs ∧ A2.off = false ∧ (A2.dir name).isSome = true := by
  subst hg
  have h1 := hC.walked name
  rw [h.last] at h1
  dsimp only at h1
  rw [if_neg (by simp)] at h1
  obtain ⟨f, X', f', h2, h3, h4, h5, h6⟩ := h1
  obtain ⟨g, hg, e1, e2⟩ := h.file
  rw [hg] at h2
  obtain rfl := Option.some.inj h2
  refine ⟨?_, hC.rest.2.2, by rw [h3]; rfl⟩
  rw [rdL_some hC.rest.2.2 h3 h4, h5, leave_same (by rw [e1, e2]), e1]
end Go.Proofs.Ytmfphnhdahaooaa
