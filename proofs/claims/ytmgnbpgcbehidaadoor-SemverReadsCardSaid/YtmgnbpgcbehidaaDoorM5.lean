/- Mathematics: a version's text leads back to it, and a text that is a version is that version's. -/
import Derived.Test.YtmgnbpgcbehidaaDoorM3
import Derived.Test.YtmgnbpgcbehidaaDoorC8
namespace Go.Proofs.YtmgnbpgcbehidaaDoor
open Go.RowKit
namespace Sv
theorem back_dig {b : UInt8} (h : isDig b = true) : UInt8.ofNat (48 + (b.toNat - 48)) = b := by
  have := isDig_yes h
  have e : 48 + (b.toNat - 48) = b.toNat := by omega
  rw [e, UInt8.ofNat_toNat]
theorem val_pos {L : List UInt8} (hd : ∀ c ∈ L, isDig c = true) (hn : L ≠ []) (h48 : L.head? ≠ some 48) : 1 ≤ val L := by
  cases L with
  | nil => exact absurd rfl hn
  | cons x l =>
    have hx := isDig_yes (hd x (by simp))
    have hne : x.toNat ≠ 48 := fun e => h48 (by simp only [List.head?_cons]; congr 1; exact UInt8.toNat_inj.1 e)
    have h5 := foldl_le l (10 * 0 + (x.toNat - 48))
    have h6 : val (x :: l) = l.foldl (fun n c => 10 * n + (c.toNat - 48)) (10 * 0 + (x.toNat - 48)) := rfl
    have h7 : 1 ≤ 10 ^ l.length := Nat.pow_pos (by decide)
    have h8 : 1 * 10 ^ l.length ≤ (10 * 0 + (x.toNat - 48)) * 10 ^ l.length := Nat.mul_le_mul_right _ (by omega)
    omega
theorem head_snoc {L : List UInt8} {b : UInt8} (h : L ≠ []) : (L ++ [b]).head? = L.head? := by
  cases L with
  | nil => exact absurd rfl h
  | cons x l => rfl
theorem dd_val : ∀ (n : Nat) (T : List UInt8), T.length = n → T ≠ [] → ¬ (T.head? = some 48 ∧ 1 < T.length) → (∀ c ∈ T, isDig c = true) → Lib.decDigits (val T) = T := by
  intro n
  induction n with
  | zero => intro T h h1; exact absurd (List.length_eq_zero_iff.1 h) h1
  | succ n ih =>
    intro T hl hne hh hd
    rcases List.eq_nil_or_concat T with h | ⟨L, b, h⟩
    · exact absurd h hne
    · rw [List.concat_eq_append] at h
      subst h
      have hb := isDig_yes (hd b (by simp))
      rw [val_snoc]
      by_cases hL : L = []
      · subst hL
        have e : 10 * val [] + (b.toNat - 48) = b.toNat - 48 := by rw [val_nil]; omega
        rw [e, Lib.decDigits_one (by omega), back_dig (hd b (by simp))]
        rfl
      · have hL48 : L.head? ≠ some 48 := fun h => hh ⟨by rw [head_snoc hL]; exact h, by
          have := List.length_pos_iff.2 hL
          simp; omega⟩
        have hdl : ∀ c ∈ L, isDig c = true := fun c hc => hd c (List.mem_append_left _ hc)
        have hv := val_pos hdl hL hL48
        have hi := ih L (by simpa using hl) hL (fun h => hL48 h.1) hdl
        rw [dd_step]
        have e1 : (10 * val L + (b.toNat - 48)) / 10 = val L := by omega
        have e2 : (10 * val L + (b.toNat - 48)) % 10 = b.toNat - 48 := by omega
        rw [e1, e2, if_neg (by omega), hi, back_dig (hd b (by simp))]
theorem digit_is {k : Nat} (h : k < 10) : isDig (UInt8.ofNat (48 + k)) = true ∧ (UInt8.ofNat (48 + k)).toNat = 48 + k := by
  have e : (UInt8.ofNat (48 + k)).toNat = 48 + k := by simp; omega
  exact ⟨by unfold isDig; rw [e]; exact decide_eq_true (by omega), e⟩
theorem dd_spec (n : Nat) : (∀ c ∈ Lib.decDigits n, isDig c = true) ∧ val (Lib.decDigits n) = n ∧ Lib.decDigits n ≠ [] ∧ ¬ ((Lib.decDigits n).head? = some 48 ∧ 1 < (Lib.decDigits n).length) := by
  induction n using Nat.strongRecOn with
  | _ n ih =>
    by_cases h : n < 10
    · rw [Lib.decDigits_one h]
      have hd := digit_is h
      refine ⟨fun c hc => by rw [List.mem_singleton.1 hc]; exact hd.1, ?_, by simp, fun h2 => absurd h2.2 (by simp)⟩
      have : val [UInt8.ofNat (48 + n)] = 10 * 0 + ((UInt8.ofNat (48 + n)).toNat - 48) := rfl
      rw [this, hd.2]; omega
    · have h0 : ¬ n / 10 = 0 := by omega
      obtain ⟨i1, i2, i3, i4⟩ := ih (n / 10) (by omega)
      have hd := digit_is (k := n % 10) (by omega)
      have e : Lib.decDigits n = Lib.decDigits (n / 10) ++ [UInt8.ofNat (48 + n % 10)] := by rw [dd_step n, if_neg h0]
      rw [e]
      refine ⟨fun c hc => ?_, ?_, by simp, fun h2 => ?_⟩
      · rcases List.mem_append.1 hc with hc | hc
        · exact i1 c hc
        · rw [List.mem_singleton.1 hc]; exact hd.1
      · rw [val_snoc, i2, hd.2]; omega
      · rw [head_snoc i3] at h2
        have hlen : ¬ 1 < (Lib.decDigits (n / 10)).length := fun h3 => i4 ⟨h2.1, h3⟩
        generalize Lib.decDigits (n / 10) = L at *
        match L, i3, hlen, h2, i2 with
        | [x], _, _, h2, i2 =>
          have hx : x = 48 := by simpa using h2.1
          rw [hx] at i2
          have : val [48] = 0 := rfl
          omega
        | _ :: _ :: _, _, hlen, _, _ => exact hlen (by simp)
theorem numP_dd {n : Nat} (h : n ≤ 999999) : NumP (Lib.decDigits n) := by
  obtain ⟨h1, h2, h3, h4⟩ := dd_spec n
  exact ⟨h3, h4, h1, by rw [h2]; exact h⟩
theorem at_point {X D R : List UInt8} (hX : X = D ++ 46 :: R) (h : NumP D) : NumR X ∧ X[(run X).length]? = some 46 ∧ run X = D ∧ X.drop ((run X).length + 1) = R := by
  have hr : run X = D := by
    rw [hX]
    unfold run
    rw [List.takeWhile_append_of_pos h.2.2.1, List.takeWhile_cons, not_dig46]
    simp
  have ht : X.take D.length = D := by rw [hX]; simp
  refine ⟨numR_of (j := D.length) (by rw [hX]; simp) (by rw [ht]; exact h) (by rw [ht, hr]), ?_, hr, ?_⟩
  · rw [hr, hX]; simp
  · rw [hr, hX, List.drop_append]; simp
theorem parse_txt {v : V} {s : ByteArray} (hr : right v = true) (hs : s.data.toList = txt v) : parseS s = (v, 0) := by
  obtain ⟨⟨a0, a1⟩, ⟨b0, b1⟩, ⟨c0, c1⟩⟩ := right_yes hr
  have pa : NumP (dg v.a) := numP_dd (by omega)
  have pb : NumP (dg v.b) := numP_dd (by omega)
  have pc : NumP (dg v.c) := numP_dd (by omega)
  have h0 := at_point (X := s.data.toList) (D := dg v.a) (R := dg v.b ++ 46 :: dg v.c) (by rw [hs]; simp [txt]) pa
  obtain ⟨n0, m0, v0, r0⟩ := stepB h0.1 h0.2.1
  rw [h0.2.2.1] at v0
  rw [h0.2.2.2] at r0
  have h1 := at_point r0 pb
  obtain ⟨n1, m1, v1, r1⟩ := stepB h1.1 h1.2.1
  rw [h1.2.2.1] at v1
  rw [h1.2.2.2] at r1
  have hrun : run (r (r s)).data.toList = dg v.c := by rw [r1]; exact run_self pc.2.2.1
  have hR : NumR (r (r s)).data.toList := numR_of (j := (r (r s)).data.toList.length) (Nat.le_refl _) (by rw [List.take_length, r1]; exact pc) (by rw [List.take_length, hrun, r1])
  obtain ⟨n2, m2, v2⟩ := lastB hR (by rw [hrun, r1])
  rw [hrun] at v2
  have ok : okS s = true := by unfold okS; rw [n0, m0, n1, m1, n2, m2]; rfl
  rw [parse_good ok, v0, v1, v2]
  have ea : ((val (dg v.a) : Nat) : Int) = v.a := by unfold dg; rw [(dd_spec _).2.1]; omega
  have eb : ((val (dg v.b) : Nat) : Int) = v.b := by unfold dg; rw [(dd_spec _).2.1]; omega
  have ec : ((val (dg v.c) : Nat) : Int) = v.c := by unfold dg; rw [(dd_spec _).2.1]; omega
  rw [ea, eb, ec]
theorem parse_print {v : V} (hr : right v = true) : parseS (printS v) = (v, 0) := parse_txt hr (by rw [print_yes hr])
theorem nb_yes {s : ByteArray} (h : nb s = true) : dg (nv s : Nat) = (t s).data.toList ∧ inR (nv s : Nat) = true := by
  have hp : NumP (t s).data.toList := of_decide_eq_true h
  have hv : nv s = val (t s).data.toList := (num_yes hp).2
  refine ⟨?_, ?_⟩
  · unfold dg
    rw [hv, Int.toNat_natCast]
    exact dd_val _ _ rfl hp.1 hp.2.1 hp.2.2.1
  · rw [hv]
    have := hp.2.2.2
    unfold inR
    exact decide_eq_true (by omega)
theorem m_yes {s : ByteArray} (h : m s = true) : s.data.toList = (t s).data.toList ++ 46 :: (r s).data.toList := by
  rcases index_cases s.data.toList 46 with hi | ⟨j, hi⟩
  · have : m s = false := by unfold m; rw [cut_no hi]
    rw [this] at h; cases h
  · have hc := cut_at hi
    have h1 := (Lib.indexByte_some hi).1
    unfold t r
    rw [hc.1, hc.2.1]
    have hl : j < s.data.toList.length := (List.getElem?_eq_some_iff.1 h1).1
    have e : s.data.toList[j] = 46 := (List.getElem?_eq_some_iff.1 h1).2
    rw [← e, ← List.drop_eq_getElem_cons hl, List.take_append_drop]
theorem m_no {s : ByteArray} (h : m s = false) : t s = s := by
  rcases index_cases s.data.toList 46 with hi | ⟨j, hi⟩
  · unfold t; rw [cut_no hi]
  · have : m s = true := by unfold m; exact (cut_at hi).2.2
    rw [this] at h; cases h
theorem print_parse {s : ByteArray} (h : okS s = true) : printS (parseS s).1 = s := by
  have h2 := h
  unfold okS at h2
  simp only [Bool.and_eq_true, Bool.not_eq_true'] at h2
  obtain ⟨⟨⟨⟨⟨n0, m0⟩, n1⟩, m1⟩, n2⟩, m2⟩ := h2
  rw [parse_good h]
  have g0 := nb_yes n0
  have g1 := nb_yes n1
  have g2 := nb_yes n2
  have hr : right ⟨(nv s : Nat), (nv (r s) : Nat), (nv (r (r s)) : Nat)⟩ = true := by
    unfold right
    rw [g0.2, g1.2, g2.2]; rfl
  rw [print_yes hr]
  apply ByteArray.ext
  apply Array.toList_inj.1
  show (txt _) = s.data.toList
  unfold txt
  rw [g0.1, g1.1, g2.1, m_no m2, m_yes m0, m_yes m1]
  simp
end Sv
end Go.Proofs.YtmgnbpgcbehidaaDoor
