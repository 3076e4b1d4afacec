/- Mathematics: which tokens may be, by the document's words. -/
import Derived.Test.YtpedmkdpbdhenaaGreatDoorMd
import Derived.Test.YtpedmkdpbdhenaaGreatDoorLr
namespace Go.Proofs.YtpedmkdpbdhenaaGreatDoor
open Go.RowKit
set_option linter.unusedSimpArgs false
set_option linter.unusedVariables false
theorem txF_1000 (L : List UInt8) : ∀ (f i : Nat) (said r : List UInt8) (n : Nat), txF L f i said = some (r, n) → r.length ≤ 1000 := by
  intro f
  induction f with
  | zero => intro i said r n h; cases h
  | succ f ih =>
    intro i said r n h
    unfold txF at h
    split at h
    · cases h
    · rename_i h1000
      cases hc : L[i]? with
      | none => rw [hc] at h; cases h
      | some c =>
        rw [hc] at h
        simp only [] at h
        split at h
        · cases h; omega
        · split at h
          · cases h
          · split at h
            · cases hd : L[i + 1]? with
              | none => rw [hd] at h; cases h
              | some d =>
                rw [hd] at h
                simp only [] at h
                split at h
                · exact ih _ _ _ _ h
                · cases h
            · exact ih _ _ _ _ h
theorem int_range {l : List UInt8} (h : intM l ≠ 0) : -999999999999999999 ≤ intV l ∧ intV l ≤ 999999999999999999 := by
  cases hp : Lib.hasPrefix l [45]
  · obtain ⟨e1, e2, e3⟩ := intM_plain hp h
    obtain ⟨m, hm, hs⟩ := intD_dec e2 e3
    have hV : intV l = (m : Int) := by unfold intV; rw [hp, hm]; rfl
    have h2 := Lib.decFrom_lt18 (Lib.decNat_some hm).2 (by rw [intD_len]; exact e3)
    omega
  · obtain ⟨e1, e0, e2, e3⟩ := intM_neg hp h
    obtain ⟨m, hm, hs⟩ := intD_dec e2 e3
    have hV : intV l = -(m : Int) := by unfold intV; rw [hp, hm]; rfl
    have h2 := Lib.decFrom_lt18 (Lib.decNat_some hm).2 (by rw [intD_len]; exact e3)
    omega
def KindT (t : Tk) : Prop := 1 ≤ t.k ∧ t.k ≤ 8 ∧ t.s.size ≤ 1000 ∧ (-999999999999999999 ≤ t.n ∧ t.n ≤ 999999999999999999)
theorem kind_mk (k : Int) (s : ByteArray) (n : Int) (h1 : 1 ≤ k) (h2 : k ≤ 8) (h3 : s.size ≤ 1000) (h4 : -999999999999999999 ≤ n) (h5 : n ≤ 999999999999999999) : KindT ⟨k, s, n⟩ := ⟨h1, h2, h3, h4, h5⟩
theorem ofL_small {l : List UInt8} {n m : Nat} (h : n ≤ m) : (ofL (l.take n)).size ≤ m := by
  rw [ofL_size, List.length_take]; omega
theorem nameT_kind {kind : Int} {l : List UInt8} {t : Tk} {n : Nat} (hk : kind = 1 ∨ kind = 2) (h : nameT kind (ofL l) = (t, n)) (h0 : 0 < n) : KindT t := by
  rw [nameT_ofL] at h
  split at h
  · cases h; omega
  · rename_i h30
    cases h
    have hs : (ofL (l.take (cnt nmB l))).size ≤ 1000 := ofL_small (by omega)
    cases keyB (ofL (l.take (cnt nmB l)))
    · exact kind_mk _ _ _ (by simp; omega) (by simp; omega) hs (by omega) (by omega)
    · exact kind_mk _ _ _ (by simp) (by simp) hs (by omega) (by omega)
theorem first_kinds {l : List UInt8} {t : Tk} {n : Nat} (h : firstT (ofL l) = (t, n)) (h0 : 0 < n) : KindT t := by
  cases hc : l[0]? with
  | none => rw [firstT_none hc] at h; cases h; omega
  | some c =>
    rw [firstT_at hc] at h
    split at h
    · exact nameT_kind (.inl rfl) h h0
    · split at h
      · exact nameT_kind (.inr rfl) h h0
      · split at h
        · rw [varT_ofL] at h
          split at h
          · cases h; omega
          · rename_i hcond
            cases h
            exact kind_mk _ _ _ (by omega) (by omega) (ofL_small (by omega)) (by omega) (by omega)
        · split at h
          · obtain ⟨r, hr, rfl⟩ := textT_some h h0
            have := txF_1000 _ _ _ _ _ _ hr
            exact kind_mk _ _ _ (by omega) (by omega) (by rw [ofL_size]; exact this) (by omega) (by omega)
          · split at h
            · rw [numT_ofL] at h
              split at h
              · cases h
                have h20 := verF_le (ofL l) (min (ofL l).size 20)
                have hv : verM (ofL l) ≤ 20 := Nat.le_trans h20 (Nat.min_le_right _ _)
                exact kind_mk _ _ _ (by omega) (by omega) (ofL_small (by omega)) (by omega) (by omega)
              · split at h
                · cases h; omega
                · rename_i hi
                  cases h
                  have := int_range hi
                  exact kind_mk _ _ _ (by omega) (by omega) (Nat.zero_le _) this.1 this.2
            · rw [signT_ofL] at h
              split at h
              · cases h; exact kind_mk _ _ _ (by omega) (by omega) (ofL_small (by omega)) (by omega) (by omega)
              · split at h
                · cases h; exact kind_mk _ _ _ (by omega) (by omega) (ofL_small (by omega)) (by omega) (by omega)
                · cases h; omega
/-- A token that may be, by the document's words. -/
theorem right_iff (t : Tk) : RightT t ↔ (1 ≤ t.k ∧ t.k ≤ 8 ∧ t.s.size ≤ 1000 ∧ (t.k = 4 → -999999999999999999 ≤ t.n ∧ t.n ≤ 999999999999999999) ∧ 0 < (tellT t).length ∧ oneT (tellT t) = (t, (tellT t).length)) := by
  constructor
  · rintro ⟨h0, h1⟩
    obtain ⟨k1, k2, k3, k4⟩ := first_kinds h1 h0
    exact ⟨k1, k2, k3, fun _ => k4, h0, (one_first h0).2 h1⟩
  · rintro ⟨_, _, _, _, h0, h1⟩
    exact ⟨h0, (one_first h0).1 h1⟩
end Go.Proofs.YtpedmkdpbdhenaaGreatDoor
