/- The document's In, Keywords, Text, Dec, Told. -/
import Derived.Test.YtpedmkdpbdhenaaGreatDoorNe
import Derived.Laws.BytesArg
namespace Go.Proofs.YtpedmkdpbdhenaaGreatDoor
open Go.RowKit
set_option linter.unusedSimpArgs false
set_option linter.unusedVariables false
theorem byte_is {c : UInt8} {n : Nat} (h : c.toNat = n) (hn : n < 256) : c = UInt8.ofNat n := u8 h hn
/-- A slice of texts. -/
def SAt (w : World) (v : Value) (l : List ByteArray) : Prop := ∃ q c, v = .slice q l.length c ∧ ∀ i x, l[i]? = some x → ∃ b o, q = some ⟨b, o, none⟩ ∧ w.cell? ⟨b, o + i, none⟩ = some (.string x)
theorem sat_lit (w : World) (l : List ByteArray) (cs : Array Value) (h : cs.toList = l.map Value.string) (c : Nat) : SAt (w.alloc (.cells cs 9)) (.slice (some ⟨w.heap.size, 0, none⟩) l.length c) l := by
  refine ⟨_, c, rfl, fun i x hx => ⟨w.heap.size, 0, rfl, ?_⟩⟩
  have := new_cells w cs 9 _ h i (.string x) (by rw [List.getElem?_map, hx]; rfl)
  rw [add_zero_none] at this
  rw [Nat.zero_add]
  exact this
noncomputable def inB (s : ByteArray) (l : List ByteArray) : Bool := @decide (s ∈ l) (Classical.propDecidable _)
theorem inB_yes {s : ByteArray} {l : List ByteArray} (h : s ∈ l) : inB s l = true := @decide_eq_true _ (Classical.propDecidable _) h
theorem inB_no {s : ByteArray} {l : List ByteArray} (h : ¬ s ∈ l) : inB s l = false := @decide_eq_false _ (Classical.propDecidable _) h
set_option maxHeartbeats 4000000 in
set_option maxRecDepth 100000 in
theorem inD_any (s : ByteArray) (v : Value) (l : List ByteArray) (w : World) (h : SAt w v l) (hl : l.length ≤ 1000000) : Calls Tryz.prog 12 #[.string s, v] w fun e w' => e = .returned (.bool (inB s l)) ∧ w = w' := by
  obtain ⟨q, c, rfl, hr⟩ := h
  have HR := Lib.hid hr
  clear hr
  go_enter Tryz.func12, Tryz.ntmps12
  go_wp2
  go_loop [5] (fun i => ∃ k : Nat, k ≤ l.length ∧ i = .int .i64 k ∧ ∀ j x, j < k → l[j]? = some x → x ≠ s) (fun i => l.length - (intOf i).toNat)
  case atStart => exact ⟨0, Nat.zero_le _, rfl, fun j x h => absurd h (by omega)⟩
  case round =>
    obtain ⟨k, hk, rfl, hp⟩ := hrel
    have HP := Lib.hid hp
    clear hp
    by_cases hlt : k < l.length
    · have hki : (k : Int) < (l.length : Int) := by omega
      have hx := List.getElem?_eq_getElem hlt
      generalize l[k] = x at *
      obtain ⟨b, o, rfl, hc⟩ := HR.out k x hx
      have HX := Lib.hid hx
      clear hx
      by_cases he : x = s
      · subst he
        have HI := Lib.hid (inB_yes (List.mem_of_getElem? HX.out))
        go_wp2
        go_ret
        exact ⟨ret_bool HI.out.symm, rfl⟩
      · have he' : (x.toList == s.toList) = false := by rw [beq_eq_false_iff_ne]; exact fun e => he (toList_inj e)
        have HE := Lib.hid he
        clear he
        go_wp2
        go_round
        case rel =>
          refine ⟨k + 1, by omega, by go_num, fun j y hj hy => ?_⟩
          by_cases h : j < k
          · exact HP.out j y h hy
          · obtain rfl : j = k := by omega
            rw [HX.out] at hy
            cases hy
            exact HE.out
        case measure => simp [intOf]; omega
    · have hki : ¬ (k : Int) < (l.length : Int) := by omega
      obtain rfl : k = l.length := by omega
      have HI := Lib.hid (inB_no (s := s) (l := l) (fun hmem => by
        obtain ⟨j, hj, e⟩ := List.getElem_of_mem hmem
        exact HP.out j s hj (by rw [List.getElem?_eq_getElem hj, e]) rfl))
      go_wp2
      go_ret
      exact ⟨ret_bool HI.out.symm, rfl⟩
/-- The keywords. -/
def keyL : List ByteArray := [⟨#[105, 109, 112, 111, 114, 116]⟩, ⟨#[116, 121, 112, 101]⟩, ⟨#[97, 108, 105, 97, 115]⟩, ⟨#[108, 101, 116]⟩, ⟨#[114, 101, 99]⟩, ⟨#[105, 110]⟩, ⟨#[102, 117, 110]⟩, ⟨#[109, 97, 116, 99, 104]⟩, ⟨#[119, 105, 116, 104]⟩, ⟨#[101, 110, 100]⟩, ⟨#[101, 120, 112, 111, 114, 116]⟩]
theorem key_in (s : ByteArray) : inB s keyL = keyB s := by
  by_cases h : s ∈ keyL
  · rw [inB_yes h]
    unfold keyL at h
    simp only [List.mem_cons, List.not_mem_nil, or_false] at h
    unfold keyB
    rcases h with h | h | h | h | h | h | h | h | h | h | h <;> (subst h; decide)
  · rw [inB_no h]
    unfold keyL at h
    simp only [List.mem_cons, List.not_mem_nil, or_false, not_or] at h
    unfold keyB
    obtain ⟨h1, h2, h3, h4, h5, h6, h7, h8, h9, h10, h11⟩ := h
    simp only [h1, h2, h3, h4, h5, h6, h7, h8, h9, h10, h11, decide_false, Bool.or_false]
theorem keywords_any (w : World) : Calls Tryz.prog 13 #[] w fun e w' => ∃ c, e = .returned (.slice (some ⟨w.heap.size, 0, none⟩) 11 c) ∧ SAt w' (.slice (some ⟨w.heap.size, 0, none⟩) 11 c) keyL ∧ Below w.heap.size w w' := by
  go_enter Tryz.func13, Tryz.ntmps13
  go_wp2
  go_ret
  exact ⟨11, rfl, sat_lit w keyL _ rfl 11, below_alloc w _⟩
theorem conv_new (w : World) (c : UInt8) (z : Int) (h : z = (c.toNat : Nat)) :
    (convert 50 9 (.slice (some ⟨w.heap.size, 0, none⟩) 1 1)).run Tryz.prog (w.alloc (.cells #[.int .u8 z] 5)) = .ok (.string ⟨#[c]⟩) (w.alloc (.cells #[.int .u8 z] 5)) := by
  subst h
  rw [run_convert_bytes_string _ 50 9 5 _ _ _ Tryz.underlying50 Tryz.underlying5 Tryz.underlying9]
  have hl : (loadCells ⟨w.heap.size, 0, none⟩ 1).run Tryz.prog (w.alloc (.cells #[.int .u8 (c.toNat : Nat)] 5)) = .ok ([((c.toNat : Nat) : Int)].map (Value.int .u8)).toArray (w.alloc (.cells #[.int .u8 (c.toNat : Nat)] 5)) := by
    have h2 := run_loadCells_list (P := Tryz.prog) (w := w.alloc (.cells #[.int .u8 (c.toNat : Nat)] 5)) ⟨w.heap.size, 0, none⟩ [.int .u8 (c.toNat : Nat)] (fun j v hj => by
      match j, hj with
      | 0, hj =>
        simp at hj
        subst hj
        exact hb_cell_add (hb_new w (.cells #[.int .u8 (c.toNat : Nat)] 5)) 0)
    exact h2
  rw [run_bytesToString _ _ 1 1 _ hl]
  simp
  rfl
def emptyV : Value → Nat
  | .string s => if s.size = 0 then 1 else 0
  | _ => 0
set_option maxRecDepth 100000 in
set_option maxHeartbeats 2000000 in
theorem dec_any (n : Nat) (hn : n ≤ 999999999999999999) (w : World) : Calls Tryz.prog 26 #[.int .i64 n] w fun e w' => e = .returned (.string ⟨(Lib.decDigits n).toArray⟩) ∧ Below w.heap.size w w' := by
  have HDL : RowKit.Hid ((Lib.decDigits n).length ≤ 19) := Lib.hid (Sv.dd_len 18 n (by omega))
  go_enter Tryz.func26, Tryz.ntmps26
  go_wp2
  go_loopw [0, 3] (fun q t wr => ∃ (m : Nat) (s : ByteArray), m ≤ 999999999999999999 ∧ q = .int .i64 m ∧ t = .string s ∧ Below w.heap.size w wr ∧ ((m = n ∧ s = ⟨#[]⟩) ∨ (0 < s.size ∧ Lib.decDigits n = (if m = 0 then [] else Lib.decDigits m) ++ s.data.toList))) (fun q t _ => 2 * (intOf q).toNat + emptyV t)
  case atStart => exact ⟨n, ⟨#[]⟩, hn, rfl, rfl, Below.refl _ _, .inl ⟨rfl, rfl⟩⟩
  case round =>
    obtain ⟨m, s, hm, rfl, rfl, hb, hc⟩ := hrel
    have HB := Lib.hid hb
    have HC := Lib.hid hc
    have hs6 : s.size ≤ 19 := by
      rcases hc with ⟨_, rfl⟩ | ⟨_, h⟩
      · exact Nat.zero_le _
      · have h2 := HDL.out
        rw [h, List.length_append, data_len] at h2
        omega
    have hz : IntKind.u8.wrap (48 + (m : Int) % 10) = 48 + (m : Int) % 10 := IntWalk.u8_in _ (by omega)
    have hcv := conv_new wr (UInt8.ofNat (48 + m % 10)) (48 + (m : Int) % 10) (by simp; omega)
    have HSTEP : RowKit.Hid (Lib.decDigits m = (if m / 10 = 0 then [] else Lib.decDigits (m / 10)) ++ [UInt8.ofNat (48 + m % 10)]) := Lib.hid (Sv.dd_step m)
    have HNEW : RowKit.Hid ((m ≠ 0 ∨ s = ⟨#[]⟩) → Lib.decDigits n = (if m / 10 = 0 then [] else Lib.decDigits (m / 10)) ++ ((⟨#[UInt8.ofNat (48 + m % 10)]⟩ : ByteArray) ++ s).data.toList) := Lib.hid (fun hor => by
      have e : ((⟨#[UInt8.ofNat (48 + m % 10)]⟩ : ByteArray) ++ s).data.toList = [UInt8.ofNat (48 + m % 10)] ++ s.data.toList := by simp
      rw [e, ← List.append_assoc, ← HSTEP.out]
      rcases HC.out with ⟨rfl, rfl⟩ | ⟨h1, h2⟩
      · exact (List.append_nil _).symm
      · rcases hor with h | h
        · rw [h2, if_neg h]
        · rw [h] at h1; exact absurd h1 (Nat.lt_irrefl 0))
    clear hb hc
    generalize hch : UInt8.ofNat (48 + m % 10) = ch at *
    clear hch
    have HNZ : RowKit.Hid (∀ x : ByteArray, ((⟨#[ch]⟩ : ByteArray) ++ x).size = x.size + 1) := Lib.hid (fun x => by rw [ByteArray.size_append, Nat.add_comm]; rfl)
    by_cases h0 : 0 < m
    · have d0 : decide (0 < (m : Int)) = true := by simp; omega
      have H0 := Lib.hid h0
      go_wp2
      refine ⟨⟨m / 10, _, by omega, by go_num, rfl, HB.out.alloc HB.out.size _, .inr ⟨by rw [HNZ.out]; omega, HNEW.out (.inl (by have := H0.out; omega))⟩⟩, ?_⟩
      have e : emptyV (.string ((⟨#[ch]⟩ : ByteArray) ++ s)) = 0 := by simp only [emptyV]; rw [HNZ.out, if_neg (by omega)]
      rw [e]
      have := H0.out
      simp [intOf]
      omega
    · obtain rfl : m = 0 := by omega
      clear h0 hz
      have hcv := conv_new wr 48 48 rfl
      by_cases hse : 0 < s.size
      · have e1 := nonempty hse
        have e2 : ¬ s.toList = [] := by intro h; rw [h] at e1; cases e1
        go_wp2
        go_ret
        refine ⟨?_, HB.out⟩
        rcases HC.out with ⟨_, h⟩ | ⟨_, h⟩
        · rw [h] at hse; exact absurd hse (Nat.lt_irrefl 0)
        · have h3 : Lib.decDigits n = s.data.toList := h
          rw [h3]; rfl
      · obtain rfl := empty_of (s := s) (by omega)
        have hn0 : n = 0 := by
          rcases HC.out with ⟨h, _⟩ | ⟨h, _⟩
          · exact h.symm
          · exact absurd h (Nat.lt_irrefl 0)
        have HN0 := Lib.hid hn0
        clear hn0
        go_wp2
        exact ⟨⟨0, _, by omega, rfl, rfl, HB.out.alloc HB.out.size _, .inr ⟨by decide, by rw [HN0.out, if_pos rfl, Lib.decDigits_one (by omega)]; rfl⟩⟩, by decide⟩

set_option maxHeartbeats 8000000 in
set_option maxRecDepth 100000 in
theorem textT_doc (s : ByteArray) (hm : s.size ≤ 4194304) (w : World) : Calls Tryz.prog 27 #[.string s] w fun e w' => e = .returned (.string (ofL (telL s.data.toList))) ∧ w = w' := by
  go_enter Tryz.func27, Tryz.ntmps27
  go_wp2
  go_loop [3, 4] (fun t i => ∃ k : Nat, i = .int .i64 k ∧ k ≤ s.size ∧ t = .string (ofL (34 :: (s.data.toList.take k).flatMap escE))) (fun _ i => s.size - (intOf i).toNat)
  case atStart => exact ⟨0, rfl, Nat.zero_le _, rfl⟩
  case round =>
    obtain ⟨k, rfl, hk, rfl⟩ := hrel
    generalize hD : (34 :: (s.data.toList.take k).flatMap escE) = D at *
    have hdl : D.length ≤ 9000000 := by
      rw [← hD, List.length_cons]
      have : ((s.data.toList.take k).flatMap escE).length ≤ 2 * (s.data.toList.take k).length := by
        have := telL_len (s.data.toList.take k)
        unfold telL at this
        rw [List.length_cons, List.length_append, List.length_cons, List.length_nil] at this
        omega
      rw [List.length_take, len_list] at this
      omega
    have hdl2 : (ofL D).size ≤ 9000000 := by rw [ofL_size]; exact hdl
    have HD := Lib.hid hD
    clear hD
    by_cases hlt : k < s.size
    · have hki : (k : Int) < (s.size : Int) := by omega
      have hk1 : (k : Int) + 1 ≤ (s.size : Int) := by omega
      have hN : s.data.toList.take (k + 1) = s.data.toList.take k ++ [s[k]] := take_one (at_list s k hlt)
      have HN : RowKit.Hid (34 :: (s.data.toList.take (k + 1)).flatMap escE = D ++ escE s[k]) := Lib.hid (by rw [hN, ← HD.out, List.flatMap_append]; simp)
      have HK := Lib.hid (keep_one hlt)
      clear hN
      by_cases h10 : s[k].toNat = 10
      · have e10 : ((s[k].toNat : Int) == 10) = true := by rw [h10]; rfl
        have HX : RowKit.Hid (escE s[k] = [92, 110]) := Lib.hid (by unfold escE; rw [if_neg (by omega), if_neg (by omega), if_pos h10])
        clear h10
        go_wp2
        go_round
        case rel => exact ⟨k + 1, by go_num, by omega, by rw [HN.out, HX.out]; exact congrArg Value.string (ofL_app D [92, 110])⟩
        case measure => simp [intOf]; omega
      have e10 : ((s[k].toNat : Int) == 10) = false := by rw [beq_eq_false_iff_ne]; omega
      by_cases h9 : s[k].toNat = 9
      · have e9 : ((s[k].toNat : Int) == 9) = true := by rw [h9]; rfl
        have HX : RowKit.Hid (escE s[k] = [92, 116]) := Lib.hid (by unfold escE; rw [if_neg (by omega), if_neg (by omega), if_neg (by omega), if_pos h9])
        clear h9 h10
        go_wp2
        go_round
        case rel => exact ⟨k + 1, by go_num, by omega, by rw [HN.out, HX.out]; exact congrArg Value.string (ofL_app D [92, 116])⟩
        case measure => simp [intOf]; omega
      have e9 : ((s[k].toNat : Int) == 9) = false := by rw [beq_eq_false_iff_ne]; omega
      by_cases h34 : s[k].toNat = 34
      · have e34 : ((s[k].toNat : Int) == 34) = true := by rw [h34]; rfl
        have HX : RowKit.Hid (escE s[k] = [92, 34]) := Lib.hid (by unfold escE; rw [if_neg (by omega), if_pos h34])
        have HU : RowKit.Hid (s[k] = 34) := Lib.hid (byte_is h34 (by decide))
        clear h9 h10 h34
        go_wp2
        go_round
        case rel => exact ⟨k + 1, by go_num, by omega, by rw [HN.out, HX.out]; exact congrArg Value.string (by rw [HK.out, HU.out]; exact (by rw [ofL_app D [92], ofL_app, List.append_assoc]; rfl))⟩
        case measure => simp [intOf]; omega
      have e34 : ((s[k].toNat : Int) == 34) = false := by rw [beq_eq_false_iff_ne]; omega
      by_cases h92 : s[k].toNat = 92
      · have e92 : ((s[k].toNat : Int) == 92) = true := by rw [h92]; rfl
        have HX : RowKit.Hid (escE s[k] = [92, 92]) := Lib.hid (by unfold escE; rw [if_pos h92])
        have HU : RowKit.Hid (s[k] = 92) := Lib.hid (byte_is h92 (by decide))
        clear h9 h10 h34 h92
        go_wp2
        go_round
        case rel => exact ⟨k + 1, by go_num, by omega, by rw [HN.out, HX.out]; exact congrArg Value.string (by rw [HK.out, HU.out]; exact (by rw [ofL_app D [92], ofL_app, List.append_assoc]; rfl))⟩
        case measure => simp [intOf]; omega
      have e92 : ((s[k].toNat : Int) == 92) = false := by rw [beq_eq_false_iff_ne]; omega
      have HX : RowKit.Hid (escE s[k] = [s[k]]) := Lib.hid (by unfold escE; rw [if_neg h92, if_neg h34, if_neg h10, if_neg h9])
      clear h9 h10 h34 h92
      go_wp2
      go_round
      case rel => exact ⟨k + 1, by go_num, by omega, by rw [HN.out, HX.out]; exact congrArg Value.string (by rw [HK.out]; exact ofL_app D [s[k]])⟩
      case measure => simp [intOf]; omega
    · have hki : ¬ (k : Int) < (s.size : Int) := by omega
      go_wp2
      go_ret
      have hf : telL s.data.toList = D ++ [34] := by
        rw [← HD.out, List.take_of_length_le (by rw [len_list]; omega)]
        rfl
      exact ⟨by rw [hf]; exact congrArg (fun b => Ending.returned (.string b)) (ofL_app D [34]), rfl⟩
end Go.Proofs.YtpedmkdpbdhenaaGreatDoor
