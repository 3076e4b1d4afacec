/- Write and Truncate, as of a store whole. -/
import Derived.Test.YtmfphnhdahaooaaM33
import Derived.Test.YtmfphnhdahaooaaMsynA
set_option linter.unusedSimpArgs false
set_option linter.unusedVariables false
namespace Go.Proofs.Ytmfphnhdahaooaa
open Go.RowKit Go.Maps
section
variable {w : World} {B F k : Nat} {A : Fs}
theorem Sto.truncK (h : Sto w B F A k) (hk : k ≤ 1000) (s : ByteArray) (hs : s.size ≤ maxLen) (j : Int) : Calls Try.prog 27 #[.pointer (some ⟨F, 0, none⟩), .string s, .int .i64 j] w (OpK B F A k (TruncR s j.toNat) w) := by
  obtain ⟨N, L, n, m, tv, h1, h2⟩ := h
  exact trunc_anyK h1 h2 hk s hs j
theorem Sto.writeK (h : Sto w B F A k) (hk : k ≤ 1000) (s : ByteArray) (hs : s.size ≤ maxLen) (at_ : Int) {S : Nat} {news : List Value} (hS : w.heap[S]? = some (.cells news.toArray 5 (0, 0))) (hq : news.length ≤ 3000) (hone : OneB news) (hSn : ∀ X f, A.file X = some f → f.bv.ownBlock ≠ some S) :
    Calls Try.prog 25 #[.pointer (some ⟨F, 0, none⟩), .string s, .int .i64 at_, .slice (some ⟨S, 0, none⟩) news.length news.length] w (OpK B F A k (WroteR s at_.toNat news) w) := by
  obtain ⟨N, L, n, m, tv, h1, h2⟩ := h
  cases hd : A.dir s with
  | none => exact write_freshK h1 h2 hk s hs at_ news (0, 0) hS rfl hq hone hd
  | some X => exact write_thereK h1 h2 hk s hs at_ news (0, 0) hS rfl hq hone hSn hd
theorem OpK.did {R : Fs → Fs → Prop} {w' : World} {e : Ending} (h : OpK B F A k R w e w') : ∃ (c : Int) (A' : Fs), e = .returned (.int .i64 c) ∧ Sto w' B F A' (k + 1) ∧ (A' = A ∨ A' = A.step ∨ (A.code = 0 ∧ R A.step A')) ∧ Frm B w w' ∧ K5 A A' w w' := by
  obtain ⟨c, A', h1, h2, h3, h4, h5⟩ := h
  refine ⟨c, A', h1, h2, ?_, h4, h5⟩
  rcases h3 with ⟨_, h | h⟩ | ⟨_, h5, h6⟩
  · exact .inl h
  · exact .inr (.inl h)
  · exact .inr (.inr ⟨h5, h6⟩)
end
end Go.Proofs.Ytmfphnhdahaooaa
