/- For every input CodecSums returns true and leaves its argument as it was: the sum of any parts is as the document says, however they are parted. No condition. -/
import Derived.Test.YtnailnlpjakcbaaC6
import Derived.Test.YtnailnlpjakcbaaC7
namespace Go.Proofs.Ytnailnlpjakcbaa
open Go.ChangeShapes Go.WideShapes Go.ChangeAt Go.RowKit
open Go.ChangeMaps (open_string shut_string)
set_option linter.unusedVariables false

def msum (l : List ByteArray) : Nat := (l.map fun s => min s.size 100000).sum
def fewB (l : List ByteArray) : Bool := decide (l.length ≤ 60) && decide (msum l ≤ 4000)
theorem msum_snoc (l : List ByteArray) (k : Nat) (h : k < l.length) : msum (l.take (k + 1)) = msum (l.take k) + min l[k].size 100000 := by
  unfold msum
  rw [List.take_succ_eq_append_getElem h, List.map_append, List.sum_append]
  simp
theorem msum_le (l : List ByteArray) : msum l ≤ 100000 * l.length := by
  induction l with
  | nil => simp [msum]
  | cons s r ih =>
    simp only [msum, List.map_cons, List.sum_cons, List.length_cons] at ih ⊢
    omega
theorem few_each (l : List ByteArray) (h : msum l ≤ 4000) : (flat l).length ≤ 4000 ∧ ∀ s ∈ l, s.size ≤ 4000 := by
  have key : (flat l).length ≤ msum l ∧ ∀ s ∈ l, s.size ≤ msum l := by
    induction l with
    | nil => simp [flat, msum]
    | cons s r ih =>
      simp only [msum, List.map_cons, List.sum_cons] at ih h ⊢
      have ih2 := ih (by omega)
      have hs : s.size ≤ min s.size 100000 := by omega
      constructor
      · simp only [flat, List.map_cons, List.flatten_cons, List.length_append] at ih2 ⊢
        have : s.data.toList.length = s.size := by simp
        omega
      · intro t ht
        rcases List.mem_cons.mp ht with rfl | ht
        · omega
        · have := ih2.2 t ht
          omega
  exact ⟨by omega, fun s hs => Nat.le_trans (key.2 s hs) h⟩

set_option maxRecDepth 100000 in
set_option maxHeartbeats 1000000 in
theorem few_some (a : Addr) (c : Nat) (l : List ByteArray) (hl : l.length ≤ maxLen) (hs : ∀ s ∈ l, s.size ≤ maxLen) (w : World) (hc : ∀ k x, (strs l)[k]? = some x → w.cell? (a.add k) = some x) :
    Calls Try.prog 24 #[.slice (some a) l.length c] w fun e w' => e = .returned (.bool (fewB l)) ∧ w = w' := by
  have HC := Lib.hid hc
  have HS := Lib.hid hs
  clear hc hs
  unfold maxLen at hl
  go_enter Try.func24, Try.ntmps24
  go_wp2
  go_loop [3, 4] (fun n i => ∃ k : Nat, k ≤ min l.length 61 ∧ i = .int .i64 k ∧ n = .int .i64 (msum (l.take k) : Nat)) (fun _ i => 61 - (intOf i).toNat)
  case atStart => exact ⟨0, Nat.zero_le _, rfl, rfl⟩
  case round =>
    obtain ⟨k, hk, rfl, rfl⟩ := hrel
    have hk1 : k ≤ l.length := by omega
    have hk2 : k ≤ 61 := by omega
    have hm : msum (l.take k) ≤ 6100000 := by
      have := msum_le (l.take k)
      rw [List.length_take, Nat.min_eq_left hk1] at this
      omega
    by_cases hlt : k < l.length
    · have hdl : decide ((k : Int) < l.length) = true := by simp; omega
      by_cases h60 : k ≤ 60
      · have hd60 : decide ((k : Int) ≤ 60) = true := by simp; omega
        have hcell : w.cell? (a.add k) = some (.string l[k]) := HC.out k (.string l[k]) (by simp [strs, hlt])
        have hsz : l[k].size ≤ maxLen := HS.out _ (List.getElem_mem hlt)
        unfold maxLen at hsz
        have HM := Lib.hid (msum_snoc l k hlt)
        generalize l[k] = s at *
        generalize msum (l.take k) = m at *
        go_wp2
        go_round
        case rel => exact ⟨k + 1, by omega, by go_num, by rw [HM.out]; go_num⟩
        case measure => simp [intOf]; omega
      · have hd60 : decide ((k : Int) ≤ 60) = false := by simp; omega
        have hll : decide ((l.length : Int) ≤ 60) = false := by simp; omega
        have HF : RowKit.Hid (fewB l = false) := by unfold fewB; rw [decide_eq_false (by omega)]; exact Lib.hid rfl
        go_wp2
        go_ret
        exact ⟨ret_bool HF.out.symm, rfl⟩
    · have hdl : decide ((k : Int) < l.length) = false := by simp; omega
      obtain rfl : k = l.length := by omega
      by_cases h60 : l.length ≤ 60
      · have hd60 : decide ((l.length : Int) ≤ 60) = true := by simp; omega
        have HF : RowKit.Hid (fewB l = decide ((msum (l.take l.length) : Int) ≤ 4000)) := by
          unfold fewB
          rw [decide_eq_true h60, Bool.true_and, List.take_length]
          apply Lib.hid
          rw [decide_eq_decide]
          omega
        generalize msum (l.take l.length) = m at *
        go_wp2
        go_ret
        exact ⟨ret_bool HF.out.symm, rfl⟩
      · have hd60 : decide ((l.length : Int) ≤ 60) = false := by simp; omega
        have HF : RowKit.Hid (fewB l = false) := by unfold fewB; rw [decide_eq_false (by omega)]; exact Lib.hid rfl
        go_wp2
        go_ret
        exact ⟨ret_bool HF.out.symm, rfl⟩
theorem few_none (w : World) : Calls Try.prog 24 #[.slice none 0 0] w fun e w' => e = .returned (.bool true) ∧ w = w' := by
  go_enter Try.func24, Try.ntmps24
  go_wp2
  go_loop [3, 4] (fun n i => i = .int .i64 0 ∧ n = .int .i64 0) (fun _ i => 0)
  case atStart => exact ⟨rfl, rfl⟩
  case round =>
    obtain ⟨rfl, rfl⟩ := hrel
    go_wp2
    go_ret
    exact ⟨rfl, rfl⟩

theorem sums_some (a : Addr) (c : Nat) (l : List ByteArray) (hl : l.length ≤ maxLen) (hs : ∀ s ∈ l, s.size ≤ maxLen) (w : World) (hc : ∀ k x, (strs l)[k]? = some x → w.cell? (a.add k) = some x) :
    Calls Try.prog 6 #[.slice (some a) l.length c] w fun e w' => e = .returned (.bool true) ∧ Below w.heap.size w w' := by
  have HC := Lib.hid hc
  have HS := Lib.hid hs
  clear hc hs
  by_cases hf : fewB l = true
  · have hf2 := hf
    unfold fewB at hf2
    rw [Bool.and_eq_true, decide_eq_true_iff, decide_eq_true_iff] at hf2
    obtain ⟨h60, h4000⟩ := hf2
    have hfl := few_each l h4000
    have HE := Lib.hid hfl.2
    have hfl2 := hfl.1
    clear hfl
    go_enter Try.func6, Try.ntmps6
    go_wp2_with (go_at_call 24; refine (few_some a c l hl HS.out _ HC.out).mono ?_; rintro e w1 ⟨rfl, rfl⟩)
    go_loop [3, 12] (fun s i => ∃ k : Nat, k ≤ l.length ∧ i = .int .i64 k ∧ s = .string (str (flat (l.take k)))) (fun _ i => l.length - (intOf i).toNat)
    case atStart => exact ⟨0, Nat.zero_le _, rfl, rfl⟩
    case round =>
      obtain ⟨k, hk, rfl, rfl⟩ := hrel
      have hsub : (flat (l.take k)).length ≤ 4000 := by
        have e : flat l = flat (l.take k) ++ flat (l.drop k) := by rw [← flat_append, List.take_append_drop]
        rw [e, List.length_append] at hfl2
        omega
      have hsz1 : (str (flat (l.take k))).size ≤ 4000 := by rw [str_size]; exact hsub
      by_cases hlt : k < l.length
      · have hdl : decide ((k : Int) < l.length) = true := by simp; omega
        have hcell : w.cell? (a.add k) = some (.string l[k]) := HC.out k (.string l[k]) (by simp [strs, hlt])
        have hsz : l[k].size ≤ 4000 := HE.out _ (List.getElem_mem hlt)
        have HA : RowKit.Hid (str (flat (l.take k)) ++ l[k] = str (flat (l.take (k + 1)))) := by
          rw [flat_snoc l k hlt, ← str_append, str_of]; exact Lib.hid rfl
        generalize l[k] = s at *
        generalize str (flat (l.take k)) = S at *
        go_wp2
        go_round
        case rel => exact ⟨k + 1, by omega, by go_num, by rw [HA.out]⟩
        case measure => simp [intOf]; omega
      · obtain rfl : k = l.length := by omega
        have HL : RowKit.Hid ((str (flat (l.take l.length))).data.toList = flat l) := by rw [List.take_length, str_list]; exact Lib.hid rfl
        have HX : RowKit.Hid ((str (flat (l.take l.length))).data.toList = flat l) := HL
        generalize str (flat (l.take l.length)) = S at *
        go_wp2_with (first
          | (go_at_call 25; ((with_reducible refine (sum_one S (by omega) _).mono ?_); rintro e w3 ⟨rfl, hb3⟩))
          | (go_at_call 25; ((with_reducible refine (sum_some a c l (by omega) (fun s hs => Nat.le_trans (HE.out s hs) (by omega)) _ HC.out).mono ?_); rintro e w2 ⟨rfl, hb2⟩))
          | (go_at_call 26; ((with_reducible refine (refSum_any S (by omega) _).mono ?_); rw [HL.out]; rintro e w4 ⟨rfl, rfl⟩))
          | (go_at_call 11; refine (alive_ok _).mono ?_; rintro e w9 ⟨rfl, hb⟩))
        go_ret
        have z2 := hb2.size
        have z3 := hb3.size
        rw [World.size_alloc] at z3
        exact ⟨rfl, ((hb2.alloc z2 _).trans (hb3.mono (by omega))).trans (hb.mono (by omega))⟩
  · have hf' : fewB l = false := by simpa using hf
    clear hf
    go_enter Try.func6, Try.ntmps6
    go_wp2_with (first
      | (go_at_call 24; refine (few_some a c l hl HS.out _ HC.out).mono ?_; rintro e w1 ⟨rfl, rfl⟩)
      | (go_at_call 11; refine (alive_ok _).mono ?_; rintro e w9 ⟨rfl, hb⟩))
    go_ret
    exact ⟨rfl, hb⟩
theorem sums_none (w : World) : Calls Try.prog 6 #[.slice none 0 0] w fun e w' => e = .returned (.bool true) ∧ Below w.heap.size w w' := by
  go_enter Try.func6, Try.ntmps6
  go_wp2_with (go_at_call 24; refine (few_none _).mono ?_; rintro e w1 ⟨rfl, rfl⟩)
  go_loop [3, 12] (fun s i => i = .int .i64 0 ∧ s = .string ⟨#[]⟩) (fun _ i => 0)
  case atStart => exact ⟨rfl, rfl⟩
  case round =>
    obtain ⟨rfl, rfl⟩ := hrel
    go_wp2_with (first
      | (go_at_call 25; ((with_reducible refine (sum_one ⟨#[]⟩ (by decide) _).mono ?_); rintro e w3 ⟨rfl, hb3⟩))
      | (go_at_call 25; ((with_reducible refine (sum_none _).mono ?_); rintro e w2 ⟨rfl, hb2⟩))
      | (go_at_call 26; ((with_reducible refine (refSum_any ⟨#[]⟩ (by decide) _).mono ?_); rintro e w4 ⟨rfl, rfl⟩))
      | (go_at_call 11; refine (alive_ok _).mono ?_; rintro e w9 ⟨rfl, hb⟩))
    go_ret
    have z2 := hb2.size
    have z3 := hb3.size
    rw [World.size_alloc] at z3
    exact ⟨rfl, ((hb2.alloc z2 _).trans (hb3.mono (by omega))).trans (hb.mono (by omega))⟩

theorem strs_len (l : List ByteArray) : (strs l).length = l.length := by simp [strs]
theorem sums_walk (v : Value) (l : List ByteArray) (w : World) (hr : Reads w v (strs l)) (hs : (∀ s ∈ l, s.size ≤ maxLen) ∧ l.length ≤ maxLen) :
    Calls Try.prog 6 #[v] w fun e w' => e = .returned (.bool true) ∧ Below w.heap.size w w' := by
  rcases hr with ⟨rfl, h⟩ | ⟨a, c, rfl, h⟩
  · exact sums_none w
  · rw [strs_len]
    exact sums_some a c l hs.2 hs.1 w h

set_option maxRecDepth 100000 in
theorem codecSums_lifted (os : Os) (started : os.Started) (H : Type) (enc : TypeId × Value → H) :
    ReturnsInHanded {} Try.checked os 6 .any (Rows.codecSumsSpec.pre6 enc Try.prog Try.f6 Rows.codecSumsRow.domain false) (Rows.codecSumsSpec.post enc Try.prog Try.f6 false true false false) := by
  refine returnsInHanded_of_change (C := Try.checked) ownKn started (by kernel_rfl) Try.func6
    (ChangeSpec.witness6 (enc := enc) (C := Try.checked) false ⟨#[], #[.slice none 0 0], []⟩ 8 (by kernel_rfl) (by kernel_rfl) (by kernel_rfl) (by kernel_rfl)) ?_
  intro W base args ds gs before hval0 hW hcnd _
  have hval : ∀ (j : Nat) t v, Try.f6.params[j]? = some t → args[j]? = some v → Value.okWide Try.prog W .any base t v := hval0
  have hW' := hW
  obtain ⟨p, q, hA0, hV, rfl, hfz, hnd⟩ := hW
  have hA : DataW.TrodAll enc Try.prog W 0 (fun _ => true) true Try.f6.params.toList args.toList ds p := hA0
  rw [Try.params6] at hA hval
  obtain ⟨v0, vs0, d0, ds0, p0, q0, hargs, rfl, rfl, h0, r0⟩ := trodAll_cons hA
  obtain ⟨rfl, rfl, rfl⟩ := trodAll_nil r0
  obtain rfl : args = #[v0] := by cases args; simp_all
  obtain ⟨rfl, rfl⟩ := trodVars_none hV
  have lt0 : ∀ x ∈ p0, x.block < W.heap.size := by obtain ⟨m, hm⟩ := h0; exact DataW.trod_lt m _ _ _ hm
  have k0 := h0
  obtain ⟨a0, b0, c0⟩ := arg_strs (hval 0 36 v0 rfl rfl) h0
  clear hA0 hval0
  refine (sums_walk v0 a0 W b0 c0).mono fun e W' ⟨he, bel⟩ => ?_
  subst he
  exact ⟨_, rfl, _, _, _, [], _, [], hW', trodAll_mk1 (shut_bool Try.underlying4 _),
    (trodAll_cons_mk (Below.trod laidTry (by kernel_rfl) (of_decide_eq_true (by kernel_rfl)) k0 bel lt0) trodAll_mk0), rfl, bel.frame _, fun h => by cases h⟩

theorem codecSums_over : Rows.codecSumsRow.holds Try.pinned (OpenSpec.ofChange Rows.codecSumsSpec) :=
  OpenClaim.holds_of_wide 6 Try.f6 rfl rfl rfl rfl rfl rfl rfl ⟨rfl, rfl, rfl, rfl, rfl⟩ rfl rfl rfl rfl rfl (by kernel_rfl) Try.func6 (by kernel_rfl)
    (of_decide_eq_true (by kernel_rfl)) (by unfold Func.isWrapper; first | (rw [if_pos (by decide +kernel)]; kernel_rfl) | (rw [if_neg (by decide +kernel)]; exact ⟨rfl, rfl⟩))
    (fun os started H enc _ => codecSums_lifted os started H enc)

theorem codecSums_holds : Rows.CodecSumsSaid := codecSums_over
#print axioms codecSums_holds
end Go.Proofs.Ytnailnlpjakcbaa
