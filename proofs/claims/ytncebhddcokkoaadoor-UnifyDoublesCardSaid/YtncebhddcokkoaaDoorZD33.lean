/- Texts in a row: Db Sb Dc. -/
import Derived.Test.YtncebhddcokkoaaDoorZD31
import Derived.Test.YtncebhddcokkoaaDoorZD32
import Derived.StillTailTactics
import Derived.Laws.IdiomStrings
import Derived.Test.YtncebhddcokkoaaDoorZD13
/- Equations made one after the other: names, types, rows. -/
namespace Go.Proofs.YtncebhddcokkoaaDoor
open Go.RowKit
set_option linter.unusedSimpArgs false
set_option linter.unusedVariables false
theorem tn_is : ∀ i, i < 14 → ((⟨#[116]⟩ : ByteArray) ++ ⟨#[97 + UInt8.ofNat i]⟩) = tn i := by decide +kernel
set_option maxRecDepth 100000 in
theorem name30_any (w : World) (i : Nat) (z : Int) (hz : z = (i : Int)) (hi : i < 14) : Calls Tryd.prog 30 #[.int .i64 z] w (fun e w' => e = .returned (.string (tn i)) ∧ Below w.heap.size w w') := by
  subst hz
  have hu : ((UInt8.ofNat (97 + i)).toNat : Int) = 97 + (i : Int) := by
    rw [UInt8.toNat_ofNat']
    omega
  have hnew := hb_new w (.cells #[.int .u8 (97 + (i : Int))] 5)
  have hcv : (convert 59 9 (.slice (some ⟨w.heap.size, 0, none⟩) 1 1)).run Tryd.prog (w.alloc (.cells #[.int .u8 (97 + (i : Int))] 5)) = .ok (.string ⟨#[UInt8.ofNat (97 + i)]⟩) (w.alloc (.cells #[.int .u8 (97 + (i : Int))] 5)) :=
    run_convert_bytes_back (P := Tryd.prog) _ 59 9 5 ⟨w.heap.size, 0, none⟩ 1 [UInt8.ofNat (97 + i)] (by kernel_rfl) (by kernel_rfl) (by kernel_rfl) (fun j hj => by
      have e : j = 0 := by simpa using hj
      subst e
      rw [add_zero_none, hb_at hnew 0 rfl]
      show _ = some (Value.int .u8 ((UInt8.ofNat (97 + i)).toNat : Int))
      rw [hu]
      rfl)
  have HB := Lib.hid (below_alloc w (.cells #[.int .u8 (97 + (i : Int))] 5))
  clear hnew hu
  go_enter Tryd.func30, Tryd.ntmps30
  go_wp2
  go_ret
  refine ⟨?_, HB.out⟩
  show Ending.returned (.string (⟨#[116]⟩ ++ ⟨#[97 + UInt8.ofNat i]⟩)) = _
  rw [tn_is i hi]
/-- A function's type of two variables. -/
def FunV (a b : ByteArray) (w : World) (e : Ending) (w' : World) : Prop := ∃ q c, e = .returned (tv 3 ⟨#[]⟩ ⟨#[]⟩ 0 (.slice q 2 c)) ∧ IsX (fun b => w.heap.size ≤ b) w' 2 (tv 3 ⟨#[]⟩ ⟨#[]⟩ 0 (.slice q 2 c)) (fun13 (vN a) (vN b)) ∧ Below w.heap.size w w'
set_option maxRecDepth 100000 in
theorem funV_any (w : World) (a b : ByteArray) (ha : a.size ≤ maxLen) (hb : b.size ≤ maxLen) : Calls Tryd.prog 32 #[tv 1 ⟨#[]⟩ a 0 (.slice none 0 0), tv 1 ⟨#[]⟩ b 0 (.slice none 0 0)] w (FunV a b w) := by
  have HA := Lib.hid ha
  have HB := Lib.hid hb
  clear ha hb
  go_enter Tryd.func32, Tryd.ntmps32
  go_wp2
  have b1 := below_alloc w (.cells #[.int .i64 1, .string ⟨#[]⟩, .string a, .int .i64 0, .slice none 0 0] 36)
  have b2 := b1.alloc b1.size (.cells #[.int .i64 1, .string ⟨#[]⟩, .string b, .int .i64 0, .slice none 0 0] 36)
  have b3 := b2.alloc b2.size (.cells #[.int .i64 3, .string ⟨#[]⟩, .string ⟨#[]⟩, .int .i64 0, .slice (some ⟨w.heap.size + 1 + 1 + 1, 0, none⟩) 2 2] 36)
  have b4 := b3.alloc b3.size (.cells #[.int .i64 1, .string ⟨#[]⟩, .string a, .int .i64 0, .slice none 0 0, .int .i64 1, .string ⟨#[]⟩, .string b, .int .i64 0, .slice none 0 0] 36)
  have hn := hb_new (((w.alloc (.cells #[.int .i64 1, .string ⟨#[]⟩, .string a, .int .i64 0, .slice none 0 0] 36)).alloc (.cells #[.int .i64 1, .string ⟨#[]⟩, .string b, .int .i64 0, .slice none 0 0] 36)).alloc (.cells #[.int .i64 3, .string ⟨#[]⟩, .string ⟨#[]⟩, .int .i64 0, .slice (some ⟨w.heap.size + 1 + 1 + 1, 0, none⟩) 2 2] 36)) (.cells #[.int .i64 1, .string ⟨#[]⟩, .string a, .int .i64 0, .slice none 0 0, .int .i64 1, .string ⟨#[]⟩, .string b, .int .i64 0, .slice none 0 0] 36)
  have es : (((w.alloc (.cells #[.int .i64 1, .string ⟨#[]⟩, .string a, .int .i64 0, .slice none 0 0] 36)).alloc (.cells #[.int .i64 1, .string ⟨#[]⟩, .string b, .int .i64 0, .slice none 0 0] 36)).alloc (.cells #[.int .i64 3, .string ⟨#[]⟩, .string ⟨#[]⟩, .int .i64 0, .slice (some ⟨w.heap.size + 1 + 1 + 1, 0, none⟩) 2 2] 36)).heap.size = w.heap.size + 1 + 1 + 1 := by simp
  rw [es] at hn
  refine bodyPost_ret (v := tv 3 ⟨#[]⟩ ⟨#[]⟩ 0 (.slice (some ⟨w.heap.size + 1 + 1 + 1, 0, none⟩) 2 2)) (by simp [results, Tryd.results32, go_sem]) rfl ⟨_, _, rfl, ?_, b4⟩
  refine ⟨_, _, rfl, by decide, by decide, by simp [maxLen], fun i x hx => ?_⟩
  match i, hx with
  | 0, hx =>
    obtain rfl := Option.some.inj hx
    exact ⟨_, _, 1, ⟨#[]⟩, a, 0, _, rfl, by show w.heap.size ≤ w.heap.size + 1 + 1 + 1; omega, ⟨hb_at hn 0 rfl, hb_at hn 1 rfl, hb_at hn 2 rfl, hb_at hn 3 rfl, hb_at hn 4 rfl⟩, IsX.leaf HA.out (Nat.le_refl _)⟩
  | 1, hx =>
    obtain rfl := Option.some.inj hx
    exact ⟨_, _, 1, ⟨#[]⟩, b, 0, _, rfl, by show w.heap.size ≤ w.heap.size + 1 + 1 + 1; omega, ⟨hb_at hn 5 rfl, hb_at hn 6 rfl, hb_at hn 7 rfl, hb_at hn 8 rfl, hb_at hn 9 rfl⟩, IsX.leaf HB.out (Nat.le_refl _)⟩
  | i + 2, hx => simp at hx
/-- A row of equations that is being made. -/
structure EqM (base : Nat) (E : List (Tm × Tm)) (d : Nat) (v : Value) (ts : List TEq) (wr : World) : Prop where
  row : wr.ownsRow base 43 10 v E.length (flatE ts)
  len : ts.length = E.length
  trm : ∀ (i : Nat) (x : Tm × Tm), E[i]? = some x → ∃ t, ts[i]? = some t ∧ IsX (fun b => some b ≠ v.ownBlock) wr d (t5v t.1) x.1 ∧ IsX (fun b => some b ≠ v.ownBlock) wr d (t5v t.2) x.2
theorem EqM.nil (base d : Nat) (w : World) : EqM base [] d (.slice none 0 0) [] w := ⟨⟨rfl, .inl ⟨rfl, rfl⟩⟩, rfl, fun i x hx => by simp at hx⟩
theorem EqM.eqAt {base : Nat} {wr : World} {E : List (Tm × Tm)} {d : Nat} {v : Value} {ts : List TEq} (h : EqM base E d v ts wr) : EqAt wr d v E := by
  obtain ⟨hfl, ⟨rfl, h0⟩ | ⟨g, cap, cur, rfl, hbg, hh, _, _, _, htk⟩⟩ := h.row
  · have : E = [] := List.eq_nil_of_length_eq_zero h0
    subst this
    exact ⟨none, 0, rfl, fun i x hx => by simp at hx⟩
  · refine ⟨some ⟨g, 0, none⟩, cap, rfl, fun i x hx => ?_⟩
    obtain ⟨t, ht, h1, h2⟩ := h.trm i x hx
    have hi := (List.getElem?_eq_some_iff.1 hx).1
    have hcell : ∀ j, j < 10 → wr.cell? ⟨g, 0 + i * 10 + j, none⟩ = (e10 t)[j]? := fun j hj => by
      rw [hb_cell hh, ← flatE_at ht hj, ← htk, List.getElem?_take, if_pos (by omega), Array.getElem?_toList, Nat.zero_add]
    refine ⟨g, 0, t.1.1, t.1.2.1, t.1.2.2.1, t.1.2.2.2.1, t.1.2.2.2.2, t.2.1, t.2.2.1, t.2.2.2.1, t.2.2.2.2.1, t.2.2.2.2.2, rfl, ⟨⟨?_, ?_, ?_, ?_, ?_⟩, h1.isT⟩, ⟨?_, ?_, ?_, ?_, ?_⟩, h2.isT⟩
    · have := hcell 0 (by omega); exact this
    · have := hcell 1 (by omega); exact this
    · have := hcell 2 (by omega); exact this
    · have := hcell 3 (by omega); exact this
    · have := hcell 4 (by omega); exact this
    · have := hcell 5 (by omega); exact this
    · have := hcell 6 (by omega); exact this
    · have := hcell 7 (by omega); exact this
    · have := hcell 8 (by omega); exact this
    · have := hcell 9 (by omega); exact this
theorem EqM.next {base : Nat} {wr wq : World} {E : List (Tm × Tm)} {d : Nat} {v : Value} {ts : List TEq} (h : EqM base E d v ts wr) (hbase : base ≤ wr.heap.size) (hb : Below wr.heap.size wr wq) {k N k' N' : Int} {p n p' n' : ByteArray} {q q' : Option Addr} {ln c ln' c' : Nat} {a b : Tm}
    (ha : IsX (fun g => wr.heap.size ≤ g) wq d (tv k p n N (.slice q ln c)) a) (hbb : IsX (fun g => wr.heap.size ≤ g) wq d (tv k' p' n' N' (.slice q' ln' c')) b) (hn : E.length ≤ 1000) :
    ∃ v' w' ts', (Builtin.append_ #[22, 22] 22 #[v, .slice (some ⟨wq.heap.size, 0, none⟩) 1 1]).run Tryd.prog (wq.alloc (.cells #[.int .i64 k, .string p, .string n, .int .i64 N, .slice q ln c, .int .i64 k', .string p', .string n', .int .i64 N', .slice q' ln' c'] 43)) = .ok v' w' ∧
      EqM base (E ++ [(a, b)]) d v' ts' w' ∧ Below base wq w' := by
  obtain ⟨i, z, hi, hz, hs, hby, hzc⟩ := info43e
  have hlt := h.row.lt
  have hsz := hb.size
  have hnew := hb_new wq (.cells #[.int .i64 k, .string p, .string n, .int .i64 N, .slice q ln c, .int .i64 k', .string p', .string n', .int .i64 N', .slice q' ln' c'] 43)
  have hba := below_alloc wq (.cells #[.int .i64 k, .string p, .string n, .int .i64 N, .slice q ln c, .int .i64 k', .string p', .string n', .int .i64 N', .slice q' ln' c'] 43)
  have hrow : (wq.alloc (.cells #[.int .i64 k, .string p, .string n, .int .i64 N, .slice q ln c, .int .i64 k', .string p', .string n', .int .i64 N', .slice q' ln' c'] 43)).ownsRow base 43 10 v E.length (flatE ts) := own_kept h.row fun g x hg hx => hb_below (hb_below hx hb (hb_lt hx)) hba (by have := hb_lt hx; omega)
  obtain ⟨v', w', r1, r2, r3, _, r5⟩ := run_append_own_at (P := Tryd.prog) (w := wq.alloc (.cells #[.int .i64 k, .string p, .string n, .int .i64 N, .slice q ln c, .int .i64 k', .string p', .string n', .int .i64 N', .slice q' ln' c'] 43)) base 22 22 43 i z 10 144 (by kernel_rfl) hi hz hs hby hzc (by decide) v E.length (flatE ts) hrow ⟨wq.heap.size, 0, none⟩ 1 1
    [.int .i64 k, .string p, .string n, .int .i64 N, .slice q ln c, .int .i64 k', .string p', .string n', .int .i64 N', .slice q' ln' c'] rfl
    (fun j u hu => by
      rw [add_zero_none, hb_cell hnew]
      match j, hu with
      | 0, hu => exact hu
      | 1, hu => exact hu
      | 2, hu => exact hu
      | 3, hu => exact hu
      | 4, hu => exact hu
      | 5, hu => exact hu
      | 6, hu => exact hu
      | 7, hu => exact hu
      | 8, hu => exact hu
      | 9, hu => exact hu
      | j + 10, hu => simp at hu)
    (fun u hu => by
      simp only [List.mem_cons, List.not_mem_nil, or_false] at hu
      rcases hu with rfl | rfl | rfl | rfl | rfl | rfl | rfl | rfl | rfl | rfl <;> rfl)
    (by unfold maxLen; omega) (by omega) (by simp; omega)
  have hz1 : (wq.alloc (.cells #[.int .i64 k, .string p, .string n, .int .i64 N, .slice q ln c, .int .i64 k', .string p', .string n', .int .i64 N', .slice q' ln' c'] 43)).heap.size = wq.heap.size + 1 := by simp
  have hstep : ∀ g, g < wq.heap.size → some g ≠ v.ownBlock → w'.heap[g]? = wq.heap[g]? := fun g h1 h2 => by rw [r3.block g (by omega) h2, hba.block g h1]
  have hnw : ∀ g, g < wq.heap.size → some g ≠ v.ownBlock → some g ≠ v'.ownBlock := fun g h1 h2 e => by
    rcases r5 with h | h
    · exact h2 (e.trans h)
    · rw [h] at e; have := Option.some.inj e; omega
  refine ⟨v', w', ts ++ [((k, p, n, N, .slice q ln c), (k', p', n', N', .slice q' ln' c'))], r1, ⟨by rw [List.length_append, flatE_app]; exact r2, by rw [List.length_append, List.length_append, h.len]; rfl, fun i y hy => ?_⟩, ?_⟩
  · rw [List.getElem?_append] at hy
    split at hy
    · rename_i hi
      obtain ⟨t, e1, e2, e3⟩ := h.trm i y hy
      refine ⟨t, by rw [List.getElem?_append_left (by rw [h.len]; exact hi)]; exact e1, e2.move fun g hX hl => ?_, e3.move fun g hX hl => ?_⟩
      · exact ⟨hnw g (by omega) hX, by rw [hstep g (by omega) hX, hb.block g hl]⟩
      · exact ⟨hnw g (by omega) hX, by rw [hstep g (by omega) hX, hb.block g hl]⟩
    · rename_i hi
      have hi2 : i - E.length = 0 := by
        have := (List.getElem?_eq_some_iff.1 hy).1
        simp at this
        omega
      rw [hi2] at hy
      obtain rfl : (a, b) = y := by simpa using hy
      have hil : i = ts.length := by rw [h.len]; omega
      have hne : ∀ g, wr.heap.size ≤ g → some g ≠ v.ownBlock := fun g h1 e => by have := (hlt g e.symm).2; omega
      refine ⟨_, by rw [hil]; exact List.getElem?_concat_length, ha.move fun g hX hl => ?_, hbb.move fun g hX hl => ?_⟩
      · exact ⟨hnw g hl (hne g hX), hstep g hl (hne g hX)⟩
      · exact ⟨hnw g hl (hne g hX), hstep g hl (hne g hX)⟩
  · exact (hba.mono (by omega)).grown r3 (by omega) (fun j hj => (hlt j hj).1)
end Go.Proofs.YtncebhddcokkoaaDoor
/- UnifyTurned: its walk. -/
namespace Go.Proofs.YtncebhddcokkoaaDoor
open Go.RowKit
set_option linter.unusedSimpArgs false
set_option linter.unusedVariables false
theorem rem_n (z : Int) (n : Nat) (h0 : 0 < n) (h20 : n ≤ 20) (h1 : -9223372036854775808 ≤ z) (h2 : z ≤ 9223372036854775807) : ∃ K : Nat, K < n ∧ (RowKit.wrap64 (z.tmod (n : Int) + (n : Int))).tmod (n : Int) = (K : Int) := by
  have hn : (0 : Int) < (n : Int) := by omega
  have b1 := Int.lt_tmod_of_pos z (b := (n : Int)) hn
  have b2 := Int.tmod_lt_of_pos z (b := (n : Int)) hn
  have e : RowKit.wrap64 (z.tmod (n : Int) + (n : Int)) = z.tmod (n : Int) + (n : Int) := by unfold RowKit.wrap64; omega
  rw [e]
  have b3 := Int.tmod_nonneg (a := z.tmod (n : Int) + (n : Int)) (n : Int) (by omega)
  have b4 := Int.tmod_lt_of_pos (z.tmod (n : Int) + (n : Int)) (b := (n : Int)) hn
  exact ⟨_, by omega, (Int.toNat_of_nonneg b3).symm⟩
theorem EqO.frz {w wr : World} {E : List (Tm × Tm)} {d : Nat} {g n c : Nat} {ts : List TEq} (h : EqO w E d (.slice (some ⟨g, 0, none⟩) n c) ts wr) (o : Nat) : wr.frozen? ⟨g, o, none⟩ = false := by
  rcases h.row.2 with ⟨e, _⟩ | ⟨g', cap, cur, e, _, hb, _⟩
  · cases e
  · cases e; exact hb_free hb o
end Go.Proofs.YtncebhddcokkoaaDoor
/- UnifyDoubles: its walk. -/
namespace Go.Proofs.YtncebhddcokkoaaDoor
open Go.RowKit
set_option linter.unusedSimpArgs false
set_option linter.unusedVariables false
theorem tn_size (i : Nat) : (tn i).size ≤ maxLen := by
  show 2 ≤ maxLen
  decide
theorem rem_13 (z : Int) (h1 : -9223372036854775808 ≤ z) (h2 : z ≤ 9223372036854775807) : ∃ K : Nat, K < 13 ∧ (RowKit.wrap64 (z.tmod 13 + 13)).tmod 13 = (K : Int) := rem_n z 13 (by decide) (by decide) h1 h2
theorem eqsD_next (j : Nat) : eqsD (j + 1) = eqsD j ++ [eqD j] := by
  unfold eqsD
  rw [List.range_succ, List.map_append]
  rfl
theorem eqsD_len (j : Nat) : (eqsD j).length = j := by unfold eqsD; simp
/-- The size. -/
def szD (j : Nat) : Nat := 2 ^ (j + 1) - 1
theorem szD_next (j : Nat) : szD (j + 1) = 2 * szD j + 1 := by
  unfold szD
  have h1 : 2 ^ (j + 1 + 1) = 2 * 2 ^ (j + 1) := by rw [Nat.pow_succ, Nat.mul_comm]
  have h2 : 1 ≤ 2 ^ (j + 1) := Nat.one_le_two_pow
  omega
theorem szD_le {j : Nat} (h : j ≤ 13) : szD j ≤ 20000 := by
  unfold szD
  have : 2 ^ (j + 1) ≤ 2 ^ 14 := Nat.pow_le_pow_right (by decide) (by omega)
  omega
set_option maxRecDepth 100000 in
set_option maxHeartbeats 1000000 in
theorem doubles_walk (w : World) (z : Int) (sw : Bool) (hz : -9223372036854775808 ≤ z ∧ z ≤ 9223372036854775807) :
    Calls Tryd.prog 8 #[.int .i64 z, .bool sw] w (fun e w' => e = .returned (.bool true) ∧ Below w.heap.size w w') := by
  obtain ⟨K, hK, hKe⟩ := rem_13 z hz.1 hz.2
  obtain ⟨hz1, hz2⟩ := hz
  have HW := Lib.hid (Below.refl w.heap.size w)
  have HM0 := Lib.hid (EqM.nil w.heap.size 2 w)
  go_enter Tryd.func8, Tryd.ntmps8
  go_wp2
  clear hKe
  generalize hW : w = W0 at *
  have HWW := Lib.hid hW
  clear hW
  go_loopw [6, 7] (fun t6 t7 wr => ∃ (j : Nat) (v : Value) (us : List TEq), j ≤ K ∧ t7 = .int .i64 j ∧ t6 = v ∧ EqM W0.heap.size (eqsD j) 2 v us wr ∧ Below W0.heap.size W0 wr) (fun _ t7 _ => K - (intOf t7).toNat)
  case atStart => exact ⟨0, _, [], Nat.zero_le _, rfl, rfl, HM0.out, HW.out⟩
  case round =>
    obtain ⟨j, v, us, hj, rfl, rfl, hem, hbel⟩ := hrel
    have HEM := Lib.hid hem
    have HW0 := Lib.hid hbel
    clear hem hbel
    by_cases hlt : j < K
    · have hltb : decide (j < K) = true := by simpa using hlt
      have HB := Lib.hid (Below.refl wr.heap.size wr)
      have HEL : RowKit.Hid ((eqsD j).length ≤ 1000) := Lib.hid (by rw [eqsD_len]; omega)
      go_wp2_with (first
        | (go_at_call 30; first
            | ((with_reducible refine (name30_any _ j _ rfl (by omega)).mono ?_); rintro e w5 ⟨rfl, hb5⟩; have HB := Lib.hid (HB.out.trans (hb5.mono HB.out.size)); clear hb5)
            | ((with_reducible refine (name30_any _ (j + 1) _ (by simp) (by omega)).mono ?_); rintro e w5 ⟨rfl, hb5⟩; have HB := Lib.hid (HB.out.trans (hb5.mono HB.out.size)); clear hb5))
        | (go_at_call 31; (with_reducible refine (tv13_any _ _).mono ?_); rintro e w5 ⟨rfl, hb5⟩; have HB := Lib.hid (HB.out.trans (hb5.mono HB.out.size)); clear hb5)
        | (go_at_call 32; (with_reducible refine (funV_any _ _ _ (tn_size _) (tn_size _)).mono ?_); rintro e w6 ⟨qf, cf, rfl, hxf, hb6⟩; have hsz6 := HB.out.size; have HXF := Lib.hid (hxf.move (Y := fun b => wr.heap.size ≤ b) fun b hb _ => ⟨Nat.le_trans hsz6 hb, rfl⟩); have HB := Lib.hid (HB.out.trans (hb6.mono HB.out.size)); clear hb6 hxf hsz6)
        | (at_builtin; obtain ⟨v9, w9, us9, hrun9, hm9, hb9⟩ := HEM.out.next HW0.out.size HB.out (IsX.leaf (tn_size j) (by decide)) HXF.out HEL.out; refine wpList_append_at rfl (.tmp 21) (.tmp 38) rfl rfl rfl rfl hrun9 ?_; have HM9 := Lib.hid hm9; have HB9 := Lib.hid ((HB.out.mono HW0.out.size).trans hb9); clear hrun9 hm9 hb9))
      refine ⟨⟨j + 1, v9, us9, by omega, by go_num, rfl, by rw [eqsD_next]; exact HM9.out, HW0.out.trans HB9.out⟩, by simp [intOf]; omega⟩
    · obtain rfl : j = K := by omega
      have hltb : decide (j < j) = false := by simp
      by_cases hring : sw = true ∧ 0 < j
      · obtain ⟨rfl, hp⟩ := hring
        have hg : decide (0 < j) = true := by simpa using hp
        have hg' : decide (j > 0) = true := by simpa using hp
        have HB := Lib.hid (Below.refl wr.heap.size wr)
        have HEL : RowKit.Hid ((eqsD j).length ≤ 1000) := Lib.hid (by rw [eqsD_len]; omega)
        have HP := Lib.hid hp
        clear hp
        go_upto_region 10 with (first
          | (go_at_call 30; first
              | ((with_reducible refine (name30_any _ j _ rfl (by omega)).mono ?_); rintro e w5 ⟨rfl, hb5⟩; have HB := Lib.hid (HB.out.trans (hb5.mono HB.out.size)); clear hb5)
              | ((with_reducible refine (name30_any _ 0 0 rfl (by omega)).mono ?_); rintro e w5 ⟨rfl, hb5⟩; have HB := Lib.hid (HB.out.trans (hb5.mono HB.out.size)); clear hb5))
          | (go_at_call 31; (with_reducible refine (tv13_any _ _).mono ?_); rintro e w5 ⟨rfl, hb5⟩; have HB := Lib.hid (HB.out.trans (hb5.mono HB.out.size)); clear hb5)
          | (at_builtin; obtain ⟨v9, w9, us9, hrun9, hm9, hb9⟩ := HEM.out.next HW0.out.size HB.out (IsX.leaf (tn_size j) (by decide)) (IsX.leaf (tn_size 0) (by decide)) HEL.out; refine wpList_append_at rfl (.tmp 45) (.tmp 54) rfl rfl rfl rfl hrun9 ?_; have HM9 := Lib.hid hm9; have HB9 := Lib.hid ((HB.out.mono HW0.out.size).trans hb9); clear hrun9 hm9 hb9))
        have HSV := Lib.hid (solveA_any w9 2 v9 (eqsR j) HM9.out.eqAt typ_D (tot_D j hK).2 (by unfold eqsR; rw [List.length_append, eqsD_len]; simp; omega))
        have HB9' := Lib.hid (HW0.out.trans HB9.out)
        go_wp2_with (first
          | (go_at_call 12; (with_reducible refine HSV.out.mono ?_); rintro e w2 ⟨q1, l1, c1, k1, L1, rfl, hv1, ha1, hb1⟩; (obtain rfl := ans_R HP.out ha1); have HBZ := Lib.hid (HB9'.out.trans (hb1.mono HB9'.out.size)); clear hv1 ha1 hb1)
          | (go_at_call 15; (with_reducible refine (no13_any _ _).mono ?_); rintro e w5 ⟨rfl, hb5⟩; have HBZ := Lib.hid (HBZ.out.trans (hb5.mono HBZ.out.size)); clear hb5)
          | (go_at_call 11; (with_reducible refine (alive13_any _).mono ?_); rintro e w6 ⟨rfl, hb6⟩; have HBZ := Lib.hid (HBZ.out.trans (hb6.mono HBZ.out.size)); clear hb6))
        go_ret
        exact ⟨rfl, by rw [HWW.out]; exact HBZ.out⟩
      · cases sw with
        | false =>
        have HSV := Lib.hid (solveA_any wr 2 _ (eqsD j) HEM.out.eqAt (fun x hx => typ_D (n := j) x (List.mem_append_left _ hx)) (tot_D j hK).1 (by rw [eqsD_len]; omega))
        go_upto_region 11 with (go_at_call 12; (with_reducible refine HSV.out.mono ?_); rintro e w2 ⟨q1, l1, c1, k1, L1, rfl, hv1, ha1, hb1⟩; have HV1 := Lib.hid hv1; have HA1 := Lib.hid (ans_D hK ha1); have HB2 := Lib.hid (HW0.out.trans (hb1.mono HW0.out.size)); clear hv1 ha1 hb1)
        have HV2 := HV1.out
        obtain ⟨q2, c2, e2, hl2, hv2⟩ := HV2
        injection e2 with e3 e4 e5
        subst e3 e4 e5
        have HVV := Lib.hid hv2
        clear hl2 hv2 HV1
        go_wp2
        go_loopw [10, 11] (fun t10 t11 wx => ∃ i : Nat, i ≤ j ∧ t11 = .int .i64 i ∧ t10 = .int .i64 (szD i : Nat) ∧ Below w2.heap.size w2 wx) (fun _ t11 _ => j - (intOf t11).toNat)
        case atStart => exact ⟨0, Nat.zero_le _, rfl, rfl, Below.refl _ _⟩
        case round =>
          obtain ⟨i, hi, rfl, rfl, hbx⟩ := hrel
          have HBX := Lib.hid hbx
          clear hbx
          have hsz := szD_le (j := i) (by omega)
          by_cases hlt2 : i < j
          · have hlt2b : decide (i < j) = true := by simpa using hlt2
            go_wp2
            refine ⟨⟨i + 1, by omega, by go_num, ?_, HBX.out⟩, by simp [intOf]; omega⟩
            rw [szD_next]
            congr 1
            (try first | (push_cast; omega) | omega | simp)
          · obtain rfl : i = j := by omega
            have hlt2b : decide (i < i) = false := by simp
            have hszd : szD i = 2 ^ (i + 1) - 1 := rfl
            have HBZ := Lib.hid (HB2.out.trans (HBX.out.mono HB2.out.size))
            generalize hS : ((szD i : Nat) : Int) = S at *
            have HS := Lib.hid hS
            clear hS
            rcases HA1.out with ⟨h0, rfl⟩ | ⟨hp, hle, rfl, hlen, nm, t, hL0, hct⟩ | ⟨hp, hgt, rfl⟩
            · have hb1 : decide (S > 1000) = false := by rw [← HS.out, h0]; decide
              have hb1' : decide (1000 < S) = false := by rw [← HS.out, h0]; decide
              have hb2 : ((i : Int) == 0) = true := by rw [h0]; rfl
              have hb3 : (i == 0) = true := by rw [h0]; rfl
              have hb4 : decide (i = 0) = true := by simpa using h0
              have HZ := Lib.hid h0
              clear hszd h0
              go_wp2_with (first
                | (go_at_call 15; (with_reducible refine (no13_any _ _).mono ?_); rintro e w5 ⟨rfl, hb5⟩; have HBZ := Lib.hid (HBZ.out.trans (hb5.mono HBZ.out.size)); clear hb5)
                | (go_at_call 11; (with_reducible refine (alive13_any _).mono ?_); rintro e w6 ⟨rfl, hb6⟩; have HBZ := Lib.hid (HBZ.out.trans (hb6.mono HBZ.out.size)); clear hb6))
              go_ret
              exact ⟨rfl, by rw [HWW.out]; exact HBZ.out⟩
            · rw [← hszd] at hle hct
              have hb1 : decide (S > 1000) = false := by rw [← HS.out]; simp; omega
              have hb1' : decide (1000 < S) = false := by rw [← HS.out]; simp; omega
              have hb2 : ((i : Int) == 0) = false := beq_eq_false_iff_ne.2 (by omega)
              have hb3 : (i == 0) = false := beq_eq_false_iff_ne.2 (by omega)
              have hlen2 := hlen
              obtain ⟨gv, k6, p6, m6, N6, s6, rfl, _, _, hta, hit⟩ := HVV.out 0 _ hL0
              obtain ⟨q6, l6, c6, rfl⟩ := hit.spell
              have HDP := Lib.hid (tsz_cnt _ _ hit.dp)
              have HCT := Lib.hid hct
              have HTA := Lib.hid hta
              have HIT := Lib.hid hit
              have HSE : RowKit.Hid (sz 1002 t = S) := Lib.hid (by rw [sz_eq 1002 t (by rw [HDP.out, HCT.out]; omega), HDP.out, HCT.out, HS.out])
              have hll : ((L1.length : Int) == (i : Int) + 1) = true := by rw [hlen]; simp
              obtain ⟨u0, u1, u2, u3, u4⟩ := hta.below HBX.out hta.lt
              have HIT2 := Lib.hid (hit.below HBX.out)
              have hpos : (0 : Int) < (L1.length : Int) := by omega
              clear hszd hta hit hct hL0 hle
              go_wp2_with (first
                | (go_at_call 15; (with_reducible refine (no13_any _ _).mono ?_); rintro e w5 ⟨rfl, hb5⟩; have HBZ := Lib.hid (HBZ.out.trans (hb5.mono HBZ.out.size)); have HIT2 := Lib.hid (HIT2.out.below hb5); have u0 := keep_cell hb5 u0; have u1 := keep_cell hb5 u1; have u2 := keep_cell hb5 u2; have u3 := keep_cell hb5 u3; have u4 := keep_cell hb5 u4; clear hb5)
                | (go_at_call 16; (with_reducible refine (rsize_any 1002 _ _ _ HIT2.out).mono ?_); rintro e w6 ⟨rfl, hb6⟩; rw [HSE.out]; have HBZ := Lib.hid (HBZ.out.trans (hb6.mono HBZ.out.size)); clear hb6)
                | (go_at_call 11; (with_reducible refine (alive13_any _).mono ?_); rintro e w6 ⟨rfl, hb6⟩; have HBZ := Lib.hid (HBZ.out.trans (hb6.mono HBZ.out.size)); clear hb6))
              go_ret
              exact ⟨rfl, by rw [HWW.out]; exact HBZ.out⟩
            · have hb1 : decide (S > 1000) = true := by rw [← HS.out]; simp; omega
              have hb1' : decide (1000 < S) = true := by rw [← HS.out]; simp; omega
              clear hszd
              go_wp2_with (first
                | (go_at_call 15; (with_reducible refine (no13_any _ _).mono ?_); rintro e w5 ⟨rfl, hb5⟩; have HBZ := Lib.hid (HBZ.out.trans (hb5.mono HBZ.out.size)); clear hb5)
                | (go_at_call 11; (with_reducible refine (alive13_any _).mono ?_); rintro e w6 ⟨rfl, hb6⟩; have HBZ := Lib.hid (HBZ.out.trans (hb6.mono HBZ.out.size)); clear hb6))
              go_ret
              exact ⟨rfl, by rw [HWW.out]; exact HBZ.out⟩
        | true =>
          have hnp : ¬ 0 < j := fun h => hring ⟨rfl, h⟩
          have hg : decide (0 < j) = false := by simpa using hnp
          have hg' : decide (j > 0) = false := by simpa using hnp
          have HSV := Lib.hid (solveA_any wr 2 _ (eqsD j) HEM.out.eqAt (fun x hx => typ_D (n := j) x (List.mem_append_left _ hx)) (tot_D j hK).1 (by rw [eqsD_len]; omega))
          go_upto_region 11 with (go_at_call 12; (with_reducible refine HSV.out.mono ?_); rintro e w2 ⟨q1, l1, c1, k1, L1, rfl, hv1, ha1, hb1⟩; have HV1 := Lib.hid hv1; have HA1 := Lib.hid (ans_D hK ha1); have HB2 := Lib.hid (HW0.out.trans (hb1.mono HW0.out.size)); clear hv1 ha1 hb1)
          have HV2 := HV1.out
          obtain ⟨q2, c2, e2, hl2, hv2⟩ := HV2
          injection e2 with e3 e4 e5
          subst e3 e4 e5
          have HVV := Lib.hid hv2
          clear hl2 hv2 HV1
          go_wp2
          go_loopw [10, 11] (fun t10 t11 wx => ∃ i : Nat, i ≤ j ∧ t11 = .int .i64 i ∧ t10 = .int .i64 (szD i : Nat) ∧ Below w2.heap.size w2 wx) (fun _ t11 _ => j - (intOf t11).toNat)
          case atStart => exact ⟨0, Nat.zero_le _, rfl, rfl, Below.refl _ _⟩
          case round =>
            obtain ⟨i, hi, rfl, rfl, hbx⟩ := hrel
            have HBX := Lib.hid hbx
            clear hbx
            have hsz := szD_le (j := i) (by omega)
            by_cases hlt2 : i < j
            · have hlt2b : decide (i < j) = true := by simpa using hlt2
              go_wp2
              refine ⟨⟨i + 1, by omega, by go_num, ?_, HBX.out⟩, by simp [intOf]; omega⟩
              rw [szD_next]
              congr 1
              (try first | (push_cast; omega) | omega | simp)
            · obtain rfl : i = j := by omega
              have hlt2b : decide (i < i) = false := by simp
              have hszd : szD i = 2 ^ (i + 1) - 1 := rfl
              have HBZ := Lib.hid (HB2.out.trans (HBX.out.mono HB2.out.size))
              generalize hS : ((szD i : Nat) : Int) = S at *
              have HS := Lib.hid hS
              clear hS
              rcases HA1.out with ⟨h0, rfl⟩ | ⟨hp, hle, rfl, hlen, nm, t, hL0, hct⟩ | ⟨hp, hgt, rfl⟩
              · have hb1 : decide (S > 1000) = false := by rw [← HS.out, h0]; decide
                have hb1' : decide (1000 < S) = false := by rw [← HS.out, h0]; decide
                have hb2 : ((i : Int) == 0) = true := by rw [h0]; rfl
                have hb3 : (i == 0) = true := by rw [h0]; rfl
                have hb4 : decide (i = 0) = true := by simpa using h0
                have HZ := Lib.hid h0
                clear hszd h0
                go_wp2_with (first
                  | (go_at_call 15; (with_reducible refine (no13_any _ _).mono ?_); rintro e w5 ⟨rfl, hb5⟩; have HBZ := Lib.hid (HBZ.out.trans (hb5.mono HBZ.out.size)); clear hb5)
                  | (go_at_call 11; (with_reducible refine (alive13_any _).mono ?_); rintro e w6 ⟨rfl, hb6⟩; have HBZ := Lib.hid (HBZ.out.trans (hb6.mono HBZ.out.size)); clear hb6))
                go_ret
                exact ⟨rfl, by rw [HWW.out]; exact HBZ.out⟩
              · exact absurd hp hnp
              · exact absurd hp hnp
end Go.Proofs.YtncebhddcokkoaaDoor
