/- Texts in a row: Ne Nf Ng Nh. -/
import Derived.Test.YtmkjalnlldpdcaaGreatDoorZT17
import Derived.Laws.BytesArg
set_option maxHeartbeats 16000000
set_option maxRecDepth 100000
namespace Go.Proofs.YtmkjalnlldpdcaaGreatDoor
open Go.RowKit
set_option linter.unusedSimpArgs false
set_option linter.unusedVariables false
theorem str_snoc (said : List UInt8) (c : UInt8) (b : ByteArray) (h : b = ofL [c]) : ofL said ++ b = ofL (said ++ [c]) := by
 rw [h, ofL_app]
theorem text_doc (s : ByteArray) (hm : s.size ≤ 4194304) (w : World) :
 Calls Tryz.prog 239 #[.string s, .int .i64 0] w fun e w' => e = .returned (.tuple #[(txR (tdM s.data.toList 1 [])).1.v 0, .int .i64 (txR (tdM s.data.toList 1 [])).2]) ∧ Below w.heap.size w w' := by
 obtain ⟨R, hR⟩ : ∃ R, tdM s.data.toList 1 [] = R := ⟨_, rfl⟩
 rw [hR]
 go_enter Tryz.func239, Tryz.ntmps239
 go_wp2
 go_loop [6, 7] (fun o i => ∃ (k : Nat) (said : List UInt8), i = .int .i64 k ∧ o = .string (ofL said) ∧ tdM s.data.toList k said = R ∧ said.length ≤ k ∧ k ≤ s.size + 1) (fun _ i => s.size + 1 - (intOf i).toNat)
 case atStart => exact ⟨1, [], rfl, rfl, hR, by simp, by omega⟩
 case round =>
  obtain ⟨k, said, rfl, rfl, hT, hsl, hks⟩ := hrel
  have HS := Hd (tdM_step s.data.toList k said)
  rw [hT] at HS
  clear hT
  have hss : (ofL said).size = said.length := ofL_size said
  by_cases hk : k < s.size
  · have hki : (k : Int) < (s.size : Int) := by omega
    have hk1 : (k : Int) + 1 ≤ (s.size : Int) := by omega
    have HC := Hd (at_list s k hk)
    have HK := Hd (keep_one hk)
    have HQ : R = (if s[k].toNat = 34 then (if 1000 < said.length then none else some (said, k + 1)) else if s[k].toNat < 32 ∨ 126 < s[k].toNat then none else if s[k].toNat = 92 then (match s.data.toList[k + 1]? with
     | none => none
     | some d => if (escV d.toNat).2 then tdM s.data.toList (k + 2) (said ++ [UInt8.ofNat (escV d.toNat).1]) else none) else tdM s.data.toList (k + 1) (said ++ [s[k]])) := by
     rw [HS.out, HC.out]
     rfl
    clear HS
    by_cases h34 : s[k].toNat = 34
    · have e34 : ((s[k].toNat : Int) == 34) = true := by rw [h34]; rfl
      rw [if_pos h34] at HQ
      clear h34
      by_cases hl : 1000 < said.length
      · have hli : decide ((1000 : Int) < (said.length : Int)) = true := by simp; omega
        rw [if_pos hl] at HQ
        subst HQ
        go_wp2
        have k0 := hb_new w (.cells #[.int .i64 0, .string ⟨#[]⟩, .int .i64 0, .int .i64 0] 159)
        have r0 := hb_at k0 0 rfl
        have r1 := hb_at k0 1 rfl
        have r2 := hb_at k0 2 rfl
        have r3 := hb_at k0 3 rfl
        have hB := below_alloc w (.cells #[.int .i64 0, .string ⟨#[]⟩, .int .i64 0, .int .i64 0] 159)
        exact bodyPost_ret (v := .tuple #[tk0.v 0, .int .i64 0]) Q39 rfl ⟨rfl, by first | exact hB | exact (((hB.setCell (by simp) _).setCell (by simp) _).setCell (by simp) _).setCell (by simp) _⟩
      · have hli : decide ((1000 : Int) < (said.length : Int)) = false := by simp; omega
        rw [if_neg hl] at HQ
        subst HQ
        go_wp2
        have k0 := hb_new w (.cells #[.int .i64 0, .string ⟨#[]⟩, .int .i64 0, .int .i64 0] 159)
        have hB := below_alloc w (.cells #[.int .i64 0, .string ⟨#[]⟩, .int .i64 0, .int .i64 0] 159)
        have r0 := hb_at k0 0 rfl
        have r1 := hb_at k0 1 rfl
        have r2 := hb_at k0 2 rfl
        have r3 := hb_at k0 3 rfl
        exact bodyPost_ret (v := .tuple #[Tk.v ⟨5, ofL said, 0⟩ 0, .int .i64 ((k : Int) + 1)]) (by simp [results, Tryz.results239, go_sem, r0, r1, r2, r3, Tk.v]) rfl ⟨rfl, by first | exact hB | exact below_alloc w _ | exact (((hB.setCell (by simp) _).setCell (by simp) _).setCell (by simp) _).setCell (by simp) _⟩
    have e34 : ((s[k].toNat : Int) == 34) = false := by rw [beq_eq_false_iff_ne]; omega
    rw [if_neg h34] at HQ
    by_cases h32 : s[k].toNat < 32
    · have d32 : decide ((s[k].toNat : Int) < 32) = true := by simp; omega
      rw [if_pos (.inl h32)] at HQ
      subst HQ
      clear h32 h34
      go_wp2
      have k0 := hb_new w (.cells #[.int .i64 0, .string ⟨#[]⟩, .int .i64 0, .int .i64 0] 159)
      have r0 := hb_at k0 0 rfl
      have r1 := hb_at k0 1 rfl
      have r2 := hb_at k0 2 rfl
      have r3 := hb_at k0 3 rfl
      have hB := below_alloc w (.cells #[.int .i64 0, .string ⟨#[]⟩, .int .i64 0, .int .i64 0] 159)
      exact bodyPost_ret (v := .tuple #[tk0.v 0, .int .i64 0]) Q39 rfl ⟨rfl, by first | exact hB | exact (((hB.setCell (by simp) _).setCell (by simp) _).setCell (by simp) _).setCell (by simp) _⟩
    have d32 : decide ((s[k].toNat : Int) < 32) = false := by simp; omega
    by_cases h126 : 126 < s[k].toNat
    · have d126 : decide (126 < (s[k].toNat : Int)) = true := by simp; omega
      rw [if_pos (.inr h126)] at HQ
      subst HQ
      clear h32 h34 h126
      go_wp2
      have k0 := hb_new w (.cells #[.int .i64 0, .string ⟨#[]⟩, .int .i64 0, .int .i64 0] 159)
      have r0 := hb_at k0 0 rfl
      have r1 := hb_at k0 1 rfl
      have r2 := hb_at k0 2 rfl
      have r3 := hb_at k0 3 rfl
      have hB := below_alloc w (.cells #[.int .i64 0, .string ⟨#[]⟩, .int .i64 0, .int .i64 0] 159)
      exact bodyPost_ret (v := .tuple #[tk0.v 0, .int .i64 0]) Q39 rfl ⟨rfl, by first | exact hB | exact (((hB.setCell (by simp) _).setCell (by simp) _).setCell (by simp) _).setCell (by simp) _⟩
    have d126 : decide (126 < (s[k].toNat : Int)) = false := by simp; omega
    rw [if_neg (by omega)] at HQ
    by_cases h92 : s[k].toNat = 92
    rotate_left
    · have e92 : ((s[k].toNat : Int) != 92) = true := by simp; omega
      rw [if_neg h92] at HQ
      have HX := Hd HQ
      clear HQ h34 h32 h126 h92
      go_wp2
      go_round
      case rel => exact ⟨k + 1, said ++ [s[k]], by go_num, congrArg Value.string (str_snoc said s[k] _ HK.out), HX.out.symm, by simp; omega, by omega⟩
      case measure => simp [intOf]; omega
    have e92 : ((s[k].toNat : Int) != 92) = false := by simp; omega
    rw [if_pos h92] at HQ
    clear h34 h32 h126 h92
    by_cases hk2 : k + 1 < s.size
    rotate_left
    · have hke : ((k : Int) + 1 == (s.size : Int)) = true := by rw [beq_iff_eq]; omega
      rw [List.getElem?_eq_none Q65] at HQ
      simp only [] at HQ
      subst HQ
      go_wp2
      have k0 := hb_new w (.cells #[.int .i64 0, .string ⟨#[]⟩, .int .i64 0, .int .i64 0] 159)
      have r0 := hb_at k0 0 rfl
      have r1 := hb_at k0 1 rfl
      have r2 := hb_at k0 2 rfl
      have r3 := hb_at k0 3 rfl
      have hB := below_alloc w (.cells #[.int .i64 0, .string ⟨#[]⟩, .int .i64 0, .int .i64 0] 159)
      exact bodyPost_ret (v := .tuple #[tk0.v 0, .int .i64 0]) Q39 rfl ⟨rfl, by first | exact hB | exact (((hB.setCell (by simp) _).setCell (by simp) _).setCell (by simp) _).setCell (by simp) _⟩
    have hke : ((k : Int) + 1 == (s.size : Int)) = false := by rw [beq_eq_false_iff_ne]; omega
    have hk2i : (k : Int) + 1 < (s.size : Int) := by omega
    have hk3i : (k : Int) + 1 + 1 ≤ (s.size : Int) := by omega
    rw [at_list s (k + 1) hk2] at HQ
    simp only [] at HQ
    have HK2 := Hd (keep_one hk2)
    by_cases h92 : s[k + 1].toNat = 92
    · have f92 : ((s[k + 1].toNat : Int) == 92) = true := by rw [h92]; rfl
      have hv : escV s[k + 1].toNat = (92, true) := by unfold escV; rw [if_pos h92]
      rw [hv] at HQ
      simp only [if_true] at HQ
      have HX := Hd HQ
      have HU : RowKit.Hid (s[k + 1] = UInt8.ofNat 92) := Hd (u8 h92 (by decide))
      clear HQ hv h92 
      go_wp2
      go_round
      case rel => exact ⟨k + 2, said ++ [UInt8.ofNat 92], by go_num, congrArg Value.string (str_snoc said (UInt8.ofNat 92) _ (by rw [HK2.out, HU.out])), HX.out.symm, by simp; omega, by omega⟩
      case measure => simp [intOf]; omega
    have f92 : ((s[k + 1].toNat : Int) == 92) = false := by rw [beq_eq_false_iff_ne]; omega
    by_cases h34 : s[k + 1].toNat = 34
    · have f34 : ((s[k + 1].toNat : Int) == 34) = true := by rw [h34]; rfl
      have hv : escV s[k + 1].toNat = (34, true) := by unfold escV; rw [if_neg h92, if_pos h34]
      rw [hv] at HQ
      simp only [if_true] at HQ
      have HX := Hd HQ
      have HU : RowKit.Hid (s[k + 1] = UInt8.ofNat 34) := Hd (u8 h34 (by decide))
      clear HQ hv h34 h92
      go_wp2
      go_round
      case rel => exact ⟨k + 2, said ++ [UInt8.ofNat 34], by go_num, congrArg Value.string (str_snoc said (UInt8.ofNat 34) _ (by rw [HK2.out, HU.out])), HX.out.symm, by simp; omega, by omega⟩
      case measure => simp [intOf]; omega
    have f34 : ((s[k + 1].toNat : Int) == 34) = false := by rw [beq_eq_false_iff_ne]; omega
    by_cases h110 : s[k + 1].toNat = 110
    · have f110 : ((s[k + 1].toNat : Int) == 110) = true := by rw [h110]; rfl
      have hv : escV s[k + 1].toNat = (10, true) := by unfold escV; rw [if_neg h92, if_neg h34, if_pos h110]
      rw [hv] at HQ
      simp only [if_true] at HQ
      have HX := Hd HQ
      have HU : RowKit.Hid (s[k + 1] = UInt8.ofNat 110) := Hd (u8 h110 (by decide))
      clear HQ hv h110 h92 h34
      go_wp2
      go_round
      case rel => exact ⟨k + 2, said ++ [UInt8.ofNat 10], by go_num, congrArg Value.string (str_snoc said (UInt8.ofNat 10) _ rfl), HX.out.symm, by simp; omega, by omega⟩
      case measure => simp [intOf]; omega
    have f110 : ((s[k + 1].toNat : Int) == 110) = false := by rw [beq_eq_false_iff_ne]; omega
    by_cases h116 : s[k + 1].toNat = 116
    · have f116 : ((s[k + 1].toNat : Int) == 116) = true := by rw [h116]; rfl
      have hv : escV s[k + 1].toNat = (9, true) := by unfold escV; rw [if_neg h92, if_neg h34, if_neg h110, if_pos h116]
      rw [hv] at HQ
      simp only [if_true] at HQ
      have HX := Hd HQ
      have HU : RowKit.Hid (s[k + 1] = UInt8.ofNat 116) := Hd (u8 h116 (by decide))
      clear HQ hv h116 h92 h34 h110
      go_wp2
      go_round
      case rel => exact ⟨k + 2, said ++ [UInt8.ofNat 9], by go_num, congrArg Value.string (str_snoc said (UInt8.ofNat 9) _ rfl), HX.out.symm, by simp; omega, by omega⟩
      case measure => simp [intOf]; omega
    have f116 : ((s[k + 1].toNat : Int) == 116) = false := by rw [beq_eq_false_iff_ne]; omega
    have hv : escV s[k + 1].toNat = (0, false) := by unfold escV; rw [if_neg h92, if_neg h34, if_neg h110, if_neg h116]
    rw [hv] at HQ
    simp only [Bool.false_eq_true, if_false] at HQ
    subst HQ
    clear hv h92 h34 h110 h116
    go_wp2
    have k0 := hb_new w (.cells #[.int .i64 0, .string ⟨#[]⟩, .int .i64 0, .int .i64 0] 159)
    have r0 := hb_at k0 0 rfl
    have r1 := hb_at k0 1 rfl
    have r2 := hb_at k0 2 rfl
    have r3 := hb_at k0 3 rfl
    have hB := below_alloc w (.cells #[.int .i64 0, .string ⟨#[]⟩, .int .i64 0, .int .i64 0] 159)
    exact bodyPost_ret (v := .tuple #[tk0.v 0, .int .i64 0]) Q39 rfl ⟨rfl, by first | exact hB | exact (((hB.setCell (by simp) _).setCell (by simp) _).setCell (by simp) _).setCell (by simp) _⟩
  · have hki : ¬ (k : Int) < (s.size : Int) := by omega
    have HQ : R = none := by rw [HS.out, List.getElem?_eq_none Q65]
    subst HQ
    go_wp2
    have k0 := hb_new w (.cells #[.int .i64 0, .string ⟨#[]⟩, .int .i64 0, .int .i64 0] 159)
    have r0 := hb_at k0 0 rfl
    have r1 := hb_at k0 1 rfl
    have r2 := hb_at k0 2 rfl
    have r3 := hb_at k0 3 rfl
    have hB := below_alloc w (.cells #[.int .i64 0, .string ⟨#[]⟩, .int .i64 0, .int .i64 0] 159)
    exact bodyPost_ret (v := .tuple #[tk0.v 0, .int .i64 0]) Q39 rfl ⟨rfl, by first | exact hB | exact (((hB.setCell (by simp) _).setCell (by simp) _).setCell (by simp) _).setCell (by simp) _⟩
theorem byte_is {c : UInt8} {n : Nat} (h : c.toNat = n) (hn : n < 256) : c = UInt8.ofNat n := u8 h hn
def SAt (w : World) (v : Value) (l : List ByteArray) : Prop := ∃ q c, v = .slice q l.length c ∧ ∀ i x, l[i]? = some x → ∃ b o, q = some ⟨b, o, none⟩ ∧ w.cell? ⟨b, o + i, none⟩ = some (.string x)
theorem sat_lit (w : World) (l : List ByteArray) (cs : Array Value) (h : cs.toList = l.map Value.string) (c : Nat) : SAt (w.alloc (.cells cs 9)) (.slice (some ⟨w.heap.size, 0, none⟩) l.length c) l := by
 refine ⟨_, c, rfl, fun i x hx => ⟨w.heap.size, 0, rfl, ?_⟩⟩
 have := new_cells w cs 9 _ h i (.string x) (by rw [List.getElem?_map, hx]; rfl)
 rw [add_zero_none] at this
 rw [Nat.zero_add]
 exact this
noncomputable def inB (s : ByteArray) (l : List ByteArray) : Bool := @decide (s ∈ l) (Classical.propDecidable _)
theorem inB_yes {s : ByteArray} {l : List ByteArray} (h : s ∈ l) : inB s l = true := @decide_eq_true _ (Classical.propDecidable _) h
theorem inB_no {s : ByteArray} {l : List ByteArray} (h : ¬ s ∈ l) : inB s l = false := @decide_eq_false _ (Classical.propDecidable _) h
theorem inD_any (s : ByteArray) (v : Value) (l : List ByteArray) (w : World) (h : SAt w v l) (hl : l.length ≤ 1000000) : Calls Tryz.prog 237 #[.string s, v] w fun e w' => e = .returned (.bool (inB s l)) ∧ w = w' := by
 obtain ⟨q, c, rfl, hr⟩ := h
 have HR := Hd hr
 clear hr
 go_enter Tryz.func237, Tryz.ntmps237
 go_wp2
 go_loop [5] (fun i => ∃ k : Nat, k ≤ l.length ∧ i = .int .i64 k ∧ ∀ j x, j < k → l[j]? = some x → x ≠ s) (fun i => l.length - (intOf i).toNat)
 case atStart => exact ⟨0, Nat.zero_le _, rfl, fun j x h => absurd h (by omega)⟩
 case round =>
  obtain ⟨k, hk, rfl, hp⟩ := hrel
  have HP := Hd hp
  clear hp
  by_cases hlt : k < l.length
  · have hki : (k : Int) < (l.length : Int) := by omega
    have hx := List.getElem?_eq_getElem hlt
    generalize l[k] = x at *
    obtain ⟨b, o, rfl, hc⟩ := HR.out k x hx
    have HX := Hd hx
    clear hx
    by_cases he : x = s
    · subst he
      have HI := Hd (inB_yes (List.mem_of_getElem? HX.out))
      go_wp2
      go_ret
      exact ⟨ret_bool HI.out.symm, rfl⟩
    · have he' : (x.toList == s.toList) = false := by rw [beq_eq_false_iff_ne]; exact fun e => he (toList_injX e)
      have HE := Hd he
      clear he
      go_wp2
      go_round
      case rel =>
       refine ⟨k + 1, by omega, by go_num, fun j y hj hy => ?_⟩
       by_cases h : j < k
       · exact HP.out j y h hy
       · obtain rfl : j = k := by omega
         rw [HX.out] at hy
         cases hy
         exact HE.out
      case measure => simp [intOf]; omega
  · have hki : ¬ (k : Int) < (l.length : Int) := by omega
    obtain rfl : k = l.length := by omega
    have HI := Hd (inB_no (s := s) (l := l) (fun hmem => by
     obtain ⟨j, hj, e⟩ := List.getElem_of_mem hmem
     exact HP.out j s hj (by rw [List.getElem?_eq_getElem hj, e]) rfl))
    go_wp2
    go_ret
    exact ⟨ret_bool HI.out.symm, rfl⟩
def keyL : List ByteArray := [⟨#[105, 109, 112, 111, 114, 116]⟩, ⟨#[116, 121, 112, 101]⟩, ⟨#[97, 108, 105, 97, 115]⟩, ⟨#[108, 101, 116]⟩, ⟨#[114, 101, 99]⟩, ⟨#[105, 110]⟩, ⟨#[102, 117, 110]⟩, ⟨#[109, 97, 116, 99, 104]⟩, ⟨#[119, 105, 116, 104]⟩, ⟨#[101, 110, 100]⟩, ⟨#[101, 120, 112, 111, 114, 116]⟩]
theorem key_in (s : ByteArray) : inB s keyL = keyB s := by
 by_cases h : s ∈ keyL
 · rw [inB_yes h]
   unfold keyL at h
   simp only [List.mem_cons, List.not_mem_nil, or_false] at h
   unfold keyB
   rcases h with h | h | h | h | h | h | h | h | h | h | h <;> (subst h; decide)
 · rw [inB_no h]
   unfold keyL at h
   simp only [List.mem_cons, List.not_mem_nil, or_false, not_or] at h
   unfold keyB
   obtain ⟨h1, h2, h3, h4, h5, h6, h7, h8, h9, h10, h11⟩ := h
   simp only [h1, h2, h3, h4, h5, h6, h7, h8, h9, h10, h11, decide_false, Bool.or_false]
theorem keywords_any (w : World) : Calls Tryz.prog 238 #[] w fun e w' => ∃ c, e = .returned (.slice (some ⟨w.heap.size, 0, none⟩) 11 c) ∧ SAt w' (.slice (some ⟨w.heap.size, 0, none⟩) 11 c) keyL ∧ Below w.heap.size w w' := by
 go_enter Tryz.func238, Tryz.ntmps238
 go_wp2
 go_ret
 exact ⟨11, rfl, sat_lit w keyL _ rfl 11, below_alloc w _⟩
theorem conv_new (w : World) (c : UInt8) (z : Int) (h : z = (c.toNat : Nat)) :
 (convert 72 9 (.slice (some ⟨w.heap.size, 0, none⟩) 1 1)).run Tryz.prog (w.alloc (.cells #[.int .u8 z] 5)) = .ok (.string ⟨#[c]⟩) (w.alloc (.cells #[.int .u8 z] 5)) := by
 subst h
 rw [run_convert_bytes_string _ 72 9 5 _ _ _ Tryz.underlying72 Tryz.underlying5 Tryz.underlying9]
 have hl : (loadCells ⟨w.heap.size, 0, none⟩ 1).run Tryz.prog (w.alloc (.cells #[.int .u8 (c.toNat : Nat)] 5)) = .ok ([((c.toNat : Nat) : Int)].map (Value.int .u8)).toArray (w.alloc (.cells #[.int .u8 (c.toNat : Nat)] 5)) := by
  have h2 := run_loadCells_list (P := Tryz.prog) (w := w.alloc (.cells #[.int .u8 (c.toNat : Nat)] 5)) ⟨w.heap.size, 0, none⟩ [.int .u8 (c.toNat : Nat)] (fun j v hj => by
   match j, hj with
   | 0, hj =>
    simp at hj
    subst hj
    exact hb_cell_add (hb_new w (.cells #[.int .u8 (c.toNat : Nat)] 5)) 0)
  exact h2
 rw [run_bytesToString _ _ 1 1 _ hl]
 simp
 rfl
def emptyV : Value → Nat
 | .string s => if s.size = 0 then 1 else 0
 | _ => 0
theorem dec_any (n : Nat) (hn : n ≤ 999999999999999999) (w : World) : Calls Tryz.prog 154 #[.int .i64 n] w fun e w' => e = .returned (.string ⟨(Lib.decDigits n).toArray⟩) ∧ Below w.heap.size w w' := by
 have HDL : RowKit.Hid ((Lib.decDigits n).length ≤ 19) := Hd (Sv.dd_len 18 n (by omega))
 go_enter Tryz.func154, Tryz.ntmps154
 go_wp2
 go_loopw [0, 3] (fun q t wr => ∃ (m : Nat) (s : ByteArray), m ≤ 999999999999999999 ∧ q = .int .i64 m ∧ t = .string s ∧ Below w.heap.size w wr ∧ ((m = n ∧ s = ⟨#[]⟩) ∨ (0 < s.size ∧ Lib.decDigits n = (if m = 0 then [] else Lib.decDigits m) ++ s.data.toList))) (fun q t _ => 2 * (intOf q).toNat + emptyV t)
 case atStart => exact ⟨n, ⟨#[]⟩, hn, rfl, rfl, Below.refl _ _, .inl ⟨rfl, rfl⟩⟩
 case round =>
  obtain ⟨m, s, hm, rfl, rfl, hb, hc⟩ := hrel
  have HB := Hd hb
  have HC := Hd hc
  have hs6 : s.size ≤ 19 := by
   rcases hc with ⟨_, rfl⟩ | ⟨_, h⟩
   · exact Nat.zero_le _
   · have h2 := HDL.out
     rw [h, List.length_append, data_len] at h2
     omega
  have hz : IntKind.u8.wrap (48 + (m : Int) % 10) = 48 + (m : Int) % 10 := IntWalk.u8_in _ (by omega)
  have hcv := conv_new wr (UInt8.ofNat (48 + m % 10)) (48 + (m : Int) % 10) Q69
  have HSTEP : RowKit.Hid (Lib.decDigits m = (if m / 10 = 0 then [] else Lib.decDigits (m / 10)) ++ [UInt8.ofNat (48 + m % 10)]) := Hd (Sv.dd_step m)
  have HNEW : RowKit.Hid ((m ≠ 0 ∨ s = ⟨#[]⟩) → Lib.decDigits n = (if m / 10 = 0 then [] else Lib.decDigits (m / 10)) ++ ((⟨#[UInt8.ofNat (48 + m % 10)]⟩ : ByteArray) ++ s).data.toList) := Hd (fun hor => by
   have e : ((⟨#[UInt8.ofNat (48 + m % 10)]⟩ : ByteArray) ++ s).data.toList = [UInt8.ofNat (48 + m % 10)] ++ s.data.toList := by simp
   rw [e, ← List.append_assoc, ← HSTEP.out]
   rcases HC.out with ⟨rfl, rfl⟩ | ⟨h1, h2⟩
   · exact (List.append_nil _).symm
   · rcases hor with h | h
     · rw [h2, if_neg h]
     · rw [h] at h1; exact absurd h1 (Nat.lt_irrefl 0))
  clear hb hc
  generalize hch : UInt8.ofNat (48 + m % 10) = ch at *
  clear hch
  have HNZ : RowKit.Hid (∀ x : ByteArray, ((⟨#[ch]⟩ : ByteArray) ++ x).size = x.size + 1) := Hd (fun x => by rw [ByteArray.size_append, Nat.add_comm]; rfl)
  by_cases h0 : 0 < m
  · have d0 : decide (0 < (m : Int)) = true := by simp; omega
    have H0 := Hd h0
    go_wp2
    refine ⟨⟨m / 10, _, by omega, by go_num, rfl, HB.out.alloc HB.out.size _, .inr ⟨by rw [HNZ.out]; omega, HNEW.out (.inl (by have := H0.out; omega))⟩⟩, ?_⟩
    have e : emptyV (.string ((⟨#[ch]⟩ : ByteArray) ++ s)) = 0 := by simp only [emptyV]; rw [HNZ.out, if_neg (by omega)]
    rw [e]
    have := H0.out
    simp [intOf]
    omega
  · obtain rfl : m = 0 := by omega
    clear h0 hz
    have hcv := conv_new wr 48 48 rfl
    by_cases hse : 0 < s.size
    · have e1 := nonempty hse
      have e2 : ¬ s.toList = [] := by intro h; rw [h] at e1; cases e1
      go_wp2
      go_ret
      refine ⟨?_, HB.out⟩
      rcases HC.out with ⟨_, h⟩ | ⟨_, h⟩
      · rw [h] at hse; exact absurd hse (Nat.lt_irrefl 0)
      · have h3 : Lib.decDigits n = s.data.toList := h
        rw [h3]; rfl
    · obtain rfl := empty_of (s := s) (by omega)
      have hn0 : n = 0 := by
       rcases HC.out with ⟨h, _⟩ | ⟨h, _⟩
       · exact h.symm
       · exact absurd h (Nat.lt_irrefl 0)
      have HN0 := Hd hn0
      clear hn0
      go_wp2
      exact ⟨⟨0, _, by omega, rfl, rfl, HB.out.alloc HB.out.size _, .inr ⟨by decide, by rw [HN0.out, if_pos rfl, Lib.decDigits_one (by omega)]; rfl⟩⟩, by decide⟩

theorem textT_doc (s : ByteArray) (hm : s.size ≤ 4194304) (w : World) : Calls Tryz.prog 93 #[.string s] w fun e w' => e = .returned (.string (ofL (telL s.data.toList))) ∧ w = w' := by
 go_enter Tryz.func93, Tryz.ntmps93
 go_wp2
 go_loop [3, 4] (fun t i => ∃ k : Nat, i = .int .i64 k ∧ k ≤ s.size ∧ t = .string (ofL (34 :: (s.data.toList.take k).flatMap escE))) (fun _ i => s.size - (intOf i).toNat)
 case atStart => exact ⟨0, rfl, Nat.zero_le _, rfl⟩
 case round =>
  obtain ⟨k, rfl, hk, rfl⟩ := hrel
  generalize hD : (34 :: (s.data.toList.take k).flatMap escE) = D at *
  have hdl : D.length ≤ 9000000 := by
   rw [← hD, List.length_cons]
   have : ((s.data.toList.take k).flatMap escE).length ≤ 2 * (s.data.toList.take k).length := by
    have := telL_len (s.data.toList.take k)
    unfold telL at this
    rw [List.length_cons, List.length_append, List.length_cons, List.length_nil] at this
    omega
   rw [List.length_take, len_list] at this
   omega
  have hdl2 : (ofL D).size ≤ 9000000 := by rw [ofL_size]; exact hdl
  have HD := Hd hD
  clear hD
  by_cases hlt : k < s.size
  · have hki : (k : Int) < (s.size : Int) := by omega
    have hk1 : (k : Int) + 1 ≤ (s.size : Int) := by omega
    have hN : s.data.toList.take (k + 1) = s.data.toList.take k ++ [s[k]] := take_one (at_list s k hlt)
    have HN : RowKit.Hid (34 :: (s.data.toList.take (k + 1)).flatMap escE = D ++ escE s[k]) := Hd (by rw [hN, ← HD.out, List.flatMap_append]; simp)
    have HK := Hd (keep_one hlt)
    clear hN
    by_cases h10 : s[k].toNat = 10
    · have e10 : ((s[k].toNat : Int) == 10) = true := by rw [h10]; rfl
      have HX : RowKit.Hid (escE s[k] = [92, 110]) := Hd (by unfold escE; rw [if_neg (by omega), if_neg (by omega), if_pos h10])
      clear h10
      go_wp2
      go_round
      case rel => exact ⟨k + 1, by go_num, by omega, by rw [HN.out, HX.out]; exact congrArg Value.string (ofL_app D [92, 110])⟩
      case measure => simp [intOf]; omega
    have e10 : ((s[k].toNat : Int) == 10) = false := by rw [beq_eq_false_iff_ne]; omega
    by_cases h9 : s[k].toNat = 9
    · have e9 : ((s[k].toNat : Int) == 9) = true := by rw [h9]; rfl
      have HX : RowKit.Hid (escE s[k] = [92, 116]) := Hd (by unfold escE; rw [if_neg (by omega), if_neg (by omega), if_neg (by omega), if_pos h9])
      clear h9 h10
      go_wp2
      go_round
      case rel => exact ⟨k + 1, by go_num, by omega, by rw [HN.out, HX.out]; exact congrArg Value.string (ofL_app D [92, 116])⟩
      case measure => simp [intOf]; omega
    have e9 : ((s[k].toNat : Int) == 9) = false := by rw [beq_eq_false_iff_ne]; omega
    by_cases h34 : s[k].toNat = 34
    · have e34 : ((s[k].toNat : Int) == 34) = true := by rw [h34]; rfl
      have HX : RowKit.Hid (escE s[k] = [92, 34]) := Hd (by unfold escE; rw [if_neg (by omega), if_pos h34])
      have HU : RowKit.Hid (s[k] = 34) := Hd (byte_is h34 (by decide))
      clear h9 h10 h34
      go_wp2
      go_round
      case rel => exact ⟨k + 1, by go_num, by omega, by rw [HN.out, HX.out]; exact congrArg Value.string (by rw [HK.out, HU.out]; exact (by rw [ofL_app D [92], ofL_app, List.append_assoc]; rfl))⟩
      case measure => simp [intOf]; omega
    have e34 : ((s[k].toNat : Int) == 34) = false := by rw [beq_eq_false_iff_ne]; omega
    by_cases h92 : s[k].toNat = 92
    · have e92 : ((s[k].toNat : Int) == 92) = true := by rw [h92]; rfl
      have HX : RowKit.Hid (escE s[k] = [92, 92]) := Hd (by unfold escE; rw [if_pos h92])
      have HU : RowKit.Hid (s[k] = 92) := Hd (byte_is h92 (by decide))
      clear h9 h10 h34 h92
      go_wp2
      go_round
      case rel => exact ⟨k + 1, by go_num, by omega, by rw [HN.out, HX.out]; exact congrArg Value.string (by rw [HK.out, HU.out]; exact (by rw [ofL_app D [92], ofL_app, List.append_assoc]; rfl))⟩
      case measure => simp [intOf]; omega
    have e92 : ((s[k].toNat : Int) == 92) = false := by rw [beq_eq_false_iff_ne]; omega
    have HX : RowKit.Hid (escE s[k] = [s[k]]) := Hd (by unfold escE; rw [if_neg h92, if_neg h34, if_neg h10, if_neg h9])
    clear h9 h10 h34 h92
    go_wp2
    go_round
    case rel => exact ⟨k + 1, by go_num, by omega, by rw [HN.out, HX.out]; exact congrArg Value.string (by rw [HK.out]; exact ofL_app D [s[k]])⟩
    case measure => simp [intOf]; omega
  · have hki : ¬ (k : Int) < (s.size : Int) := by omega
    go_wp2
    go_ret
    have hf : telL s.data.toList = D ++ [34] := by
     rw [← HD.out, List.take_of_length_le Q65]
     rfl
    exact ⟨by rw [hf]; exact congrArg (fun b => Ending.returned (.string b)) (ofL_app D [34]), rfl⟩
theorem named0_any (s : ByteArray) (hm : s.size ≤ 4194304) (w : World) : Calls Tryz.prog 236 #[.string s, .int .i64 0, .bool true] w fun e w' => e = .returned (.int .i64 (cnt nmB s.data.toList : Nat)) ∧ w = w' := by
 have h := namedQ_any s hm 0 (Nat.zero_le _) w
 rw [List.drop_zero] at h
 exact h
theorem named1_any (s : ByteArray) (hm : s.size ≤ 4194304) (h1 : 1 ≤ s.size) (w : World) : Calls Tryz.prog 236 #[.string s, .int .i64 1, .bool false] w fun e w' => e = .returned (.int .i64 (cnt vrB (s.data.toList.drop 1) : Nat)) ∧ w = w' := namedN_any s hm 1 h1 w
theorem digitsB_any (s : ByteArray) (hm : s.size ≤ 4194304) (h1 : 1 ≤ s.size) (w : World) : Calls Tryz.prog 242 #[.string s, .int .i64 1] w fun e w' => e = .returned (.int .i64 (cnt dgB (s.data.toList.drop 1) : Nat)) ∧ w = w' := digits_any s hm 1 h1 w
theorem told_doc (t : Tk) (a : Int) (hm : t.s.size ≤ 4194304) (hf : t.k = 4 → -999999999999999999 ≤ t.n ∧ t.n ≤ 999999999999999999) (w : World) :
 Calls Tryz.prog 147 #[t.v a] w fun e w' => e = .returned (.string (ofL (tellT t))) ∧ Below w.heap.size w w' := by
 obtain ⟨k, s, n⟩ := t
 have hm' : s.size ≤ 4194304 := hm
 have hf' : k = 4 → -999999999999999999 ≤ n ∧ n ≤ 999999999999999999 := hf
 clear hm hf
 unfold Tk.v
 show Calls Tryz.prog 147 #[.agg #[.int .i64 k, .string s, .int .i64 n, .int .i64 a]] w _
 by_cases h3 : k = 3
 · subst h3
   have he : tellT ⟨3, s, n⟩ = 39 :: s.data.toList := rfl
   have hs : (⟨#[39]⟩ : ByteArray) ++ s = ofL (39 :: s.data.toList) := str_add _ _
   rw [he]
   go_enter Tryz.func147, Tryz.ntmps147
   go_wp2
   go_ret
   exact ⟨rfl, below_alloc w _⟩
 by_cases h4 : k = 4
 · subst h4
   obtain ⟨hf0, hf1⟩ := hf' rfl
   have he : tellT ⟨4, s, n⟩ = Lib.itoa n := rfl
   rw [he]
   clear he hf'
   by_cases hn : n < 0
   · obtain ⟨m, rfl⟩ : ∃ m : Nat, n = -(m : Int) := ⟨n.natAbs, by omega⟩
     have hm1 : 1 ≤ m := by omega
     have hm2 : m ≤ 999999999999999999 := by omega
     have HD := Hd (fun W => dec_any m hm2 W)
     have HIT : RowKit.Hid (Lib.itoa (-(m : Int)) = 45 :: Lib.decDigits m) := Hd (Lib.itoa_neg m hm1)
     have hz : -(-(m : Int) + 1) + 1 = (m : Int) := by omega
     have hz2 : -1 + (m : Int) + 1 = (m : Int) := by omega
     have hl := Sv.dd_len 18 m (by omega)
     have HST : RowKit.Hid ((⟨#[45]⟩ : ByteArray) ++ ofL (Lib.decDigits m) = ofL (45 :: Lib.decDigits m)) := Hd (ofL_app [45] _)
     generalize Lib.decDigits m = D at *
     go_enter Tryz.func147, Tryz.ntmps147
     go_wp2_with (go_at_call 154; first | (with_reducible refine (HD.out _).mono ?_; rintro e w1 ⟨rfl, hb⟩) | (rw [hz]; with_reducible refine (HD.out _).mono ?_; rintro e w1 ⟨rfl, hb⟩) | (rw [show ∀ x : Int, x = (m : Int) → x = (m : Int) from fun _ h => h]; with_reducible refine (HD.out _).mono ?_; rintro e w1 ⟨rfl, hb⟩))
     go_ret
     refine ⟨?_, (below_alloc w _).trans (hb.mono (by simp))⟩
     rw [HIT.out]
     exact congrArg (fun b => Ending.returned (.string b)) HST.out
   · obtain ⟨m, rfl⟩ : ∃ m : Nat, n = (m : Int) := ⟨n.toNat, by omega⟩
     have hm2 : m ≤ 999999999999999999 := by omega
     have HD := Hd (fun W => dec_any m hm2 W)
     have HIT : RowKit.Hid (Lib.itoa (m : Int) = Lib.decDigits m) := Hd (Lib.itoa_nonneg m)
     have hn' : ¬ (m : Int) < 0 := hn
     generalize Lib.decDigits m = D at *
     go_enter Tryz.func147, Tryz.ntmps147
     go_wp2_with (go_at_call 154; with_reducible refine (HD.out _).mono ?_; rintro e w1 ⟨rfl, hb⟩)
     go_ret
     exact ⟨by rw [HIT.out]; rfl, (below_alloc w _).trans (hb.mono (by simp))⟩
 by_cases h5 : k = 5
 · subst h5
   have he : tellT ⟨5, s, n⟩ = telL s.data.toList := rfl
   rw [he]
   have HI := Hd (fun W => textT_doc s hm' W)
   go_enter Tryz.func147, Tryz.ntmps147
   go_wp2_with (go_at_call 93; refine (HI.out _).mono ?_; rintro e w1 ⟨rfl, rfl⟩)
   go_ret
   exact ⟨rfl, below_alloc w _⟩
 have he : ofL (tellT ⟨k, s, n⟩) = s := by
   unfold tellT
   rw [if_neg h3, if_neg h4, if_neg h5]
 rw [he]
 clear he
 have d3 : (k == 3) = false := by rw [beq_eq_false_iff_ne]; exact h3
 have d4 : (k == 4) = false := by rw [beq_eq_false_iff_ne]; exact h4
 have d5 : (k == 5) = false := by rw [beq_eq_false_iff_ne]; exact h5
 go_enter Tryz.func147, Tryz.ntmps147
 go_wp2
 go_ret
 exact ⟨rfl, below_alloc w _⟩
theorem ext0 (s : ByteArray) (k : Nat) : s.extract 0 k = ofL (s.data.toList.take k) := by
 apply toList_injX
 rw [take_list, ByteArray.toList_eq]
theorem take2_at {s : ByteArray} (h : 1 < s.size) (h0 : s[0].toNat = 45) : s.data.toList.take 2 = [45, 62] ↔ s[1].toNat = 62 := by
 have h1 := take_one (at_list s 0 (by omega))
 have h2 := take_one (at_list s 1 h)
 rw [h1] at h2
 simp only [List.take_zero, List.nil_append, List.singleton_append] at h2
 have e0 : s[0] = 45 := u8 h0 (by decide)
 have h3 : s.data.toList.take 2 = [s[0], s[1]] := h2
 rw [h3, e0]
 constructor
 · intro h
   have : s[1] = 62 := by simpa using h
   rw [this]
   rfl
 · intro h
   have : s[1] = 62 := u8 h (by decide)
   rw [this]
theorem ps_small (s : ByteArray) (h : s.size ≤ 1) : s.data.toList.take 2 ≠ [45, 62] := by
 intro e
 have := congrArg List.length e
 rw [List.length_take, len_list] at this
 simp at this
 omega
theorem one_name (s : ByteArray) (hm : s.size ≤ 4194304) (h0 : 0 < s.size) (hc : (smB s[0] || grB s[0] || decide (s[0].toNat = 95)) = true) (w : World) :
 Calls Tryz.prog 201 #[.string s, .int .i64 0] w fun e w' => e = .returned (.tuple #[(nameD s.data.toList (grB s[0])).1.v 0, .int .i64 (nameD s.data.toList (grB s[0])).2]) ∧ Below w.heap.size w w' := by
 have hci : (0 : Int) < (s.size : Int) := by omega
 have HS := Hd (fun W => smD_any s[0] W)
 have HG := Hd (fun W => grD_any s[0] W)
 have HN := Hd (fun W => named0_any s hm W)
 have hle := cnt_le nmB s.data.toList
 rw [len_list] at hle
 have hE : nameD s.data.toList (grB s[0]) = (if 30 < cnt nmB s.data.toList then (tk0, 0) else if grB s[0] = true then (⟨2, s.extract 0 (cnt nmB s.data.toList), 0⟩, cnt nmB s.data.toList)
   else if s.extract 0 (cnt nmB s.data.toList) = ⟨#[95]⟩ then (⟨8, s.extract 0 (cnt nmB s.data.toList), 0⟩, cnt nmB s.data.toList)
   else if keyB (s.extract 0 (cnt nmB s.data.toList)) = true then (⟨7, s.extract 0 (cnt nmB s.data.toList), 0⟩, cnt nmB s.data.toList)
   else (⟨1, s.extract 0 (cnt nmB s.data.toList), 0⟩, cnt nmB s.data.toList)) := by
  unfold nameD
  rw [ext0]
  have hi : (s.data.toList.take (cnt nmB s.data.toList) = [95]) = (ofL (s.data.toList.take (cnt nmB s.data.toList)) = ⟨#[95]⟩) := propext ⟨fun h => by rw [h], fun h => congrArg (fun b : ByteArray => b.data.toList) h⟩
  simp only [hi]
 rw [hE]
 clear hE
 generalize cnt nmB s.data.toList = n at *
 have hni : (n : Int) ≤ (s.size : Int) := by omega
 obtain ⟨T, hT⟩ : ∃ T, s.extract 0 n = T := ⟨_, rfl⟩
 have hTs : T.size ≤ 4194304 := by rw [← hT, ByteArray.size_extract]; omega
 have HK := Hd (fun W => keywords_any W)
 have HIN := Hd (fun v W (h : SAt W v keyL) => inD_any T v keyL W h (by decide))
 rw [key_in] at HIN
 rw [hT]
 have h95 : ((s[0].toNat : Int) == 95) = decide (s[0].toNat = 95) := by
  rw [Bool.eq_iff_iff, beq_iff_eq, decide_eq_true_eq]
  omega
 rcases (Bool.eq_false_or_eq_true (smB s[0])) with hs | hs <;> rcases (Bool.eq_false_or_eq_true (grB s[0])) with hg | hg
 · exact absurd (sm_far hs).1 (by rw [hg]; simp)
 · have e95 : ((s[0].toNat : Int) == 95) = false := by rw [h95]; simpa using (sm_far hs).2.1
   rw [hs] at HS
   rw [hg] at HG ⊢
   clear hc h95 hs hg
   by_cases h30 : 30 < n
   · rw [if_pos h30]
     have d30 : decide ((30 : Int) < (n : Int)) = true := by simp; omega
     clear h30
     go_enter Tryz.func201, Tryz.ntmps201
     go_wp2_with (first
      | (go_at_call 234; with_reducible refine (HS.out _).mono ?_; rintro e w1 ⟨rfl, rfl⟩)
      | (go_at_call 235; with_reducible refine (HG.out _).mono ?_; rintro e w1 ⟨rfl, rfl⟩)
      | (go_at_call 236; with_reducible refine (HN.out _).mono ?_; rintro e w1 ⟨rfl, rfl⟩))
     have hB : Below w.heap.size w _ := below_alloc w (.cells #[.int .i64 0, .string ⟨#[]⟩, .int .i64 0, .int .i64 0] 159)
     have k0 := hb_new w (.cells #[.int .i64 0, .string ⟨#[]⟩, .int .i64 0, .int .i64 0] 159)
     have r0 := hb_at k0 0 rfl
     have r1 := hb_at k0 1 rfl
     have r2 := hb_at k0 2 rfl
     have r3 := hb_at k0 3 rfl
     exact bodyPost_ret (v := .tuple #[tk0.v 0, .int .i64 0]) Q38 rfl ⟨rfl, by first | exact hB | exact below_alloc w _ | exact (((hB.setCell (by simp) _).setCell (by simp) _).setCell (by simp) _).setCell (by simp) _⟩
   rw [if_neg h30]
   have d30 : decide ((30 : Int) < (n : Int)) = false := by simp; omega
   clear h30
   rw [if_neg (by simp : ¬ (false = true))]
   by_cases ht : T = ⟨#[95]⟩
   · rw [if_pos ht]
     have dt : (T.toList == [95]) = true := by rw [ht, ByteArray.toList_eq]; rfl
     clear ht
     go_enter Tryz.func201, Tryz.ntmps201
     go_wp2_with (first
      | (go_at_call 234; with_reducible refine (HS.out _).mono ?_; rintro e w1 ⟨rfl, rfl⟩)
      | (go_at_call 235; with_reducible refine (HG.out _).mono ?_; rintro e w1 ⟨rfl, rfl⟩)
      | (go_at_call 236; with_reducible refine (HN.out _).mono ?_; rintro e w1 ⟨rfl, rfl⟩))
     have hB : Below w.heap.size w _ := below_alloc w (.cells #[.int .i64 0, .string ⟨#[]⟩, .int .i64 0, .int .i64 0] 159)
     have k0 := hb_new w (.cells #[.int .i64 0, .string ⟨#[]⟩, .int .i64 0, .int .i64 0] 159)
     have r0 := hb_at k0 0 rfl
     have r1 := hb_at k0 1 rfl
     have r2 := hb_at k0 2 rfl
     have r3 := hb_at k0 3 rfl
     exact bodyPost_ret (v := .tuple #[Tk.v ⟨8, T, 0⟩ 0, .int .i64 n]) Q38 rfl ⟨rfl, by first | exact hB | exact below_alloc w _ | exact (((hB.setCell (by simp) _).setCell (by simp) _).setCell (by simp) _).setCell (by simp) _⟩
   rw [if_neg ht]
   have dt : (T.toList == [95]) = false := by rw [beq_eq_false_iff_ne]; exact fun e => ht (toList_injX (b := ⟨#[95]⟩) Q60)
   clear ht
   cases hk : keyB T
   · rw [hk] at HIN
     rw [if_neg (by simp : ¬ (false = true))]
     clear hk
     go_enter Tryz.func201, Tryz.ntmps201
     go_wp2_with (first
      | (go_at_call 234; with_reducible refine (HS.out _).mono ?_; rintro e w1 ⟨rfl, rfl⟩)
      | (go_at_call 235; with_reducible refine (HG.out _).mono ?_; rintro e w1 ⟨rfl, rfl⟩)
      | (go_at_call 236; with_reducible refine (HN.out _).mono ?_; rintro e w1 ⟨rfl, rfl⟩)
      | (go_at_call 238; with_reducible refine (HK.out _).mono ?_; rintro e w2 ⟨ck, rfl, hsat, hb2⟩; rw [World.size_alloc] at hsat ⊢; have HSAT := Hd hsat; have HB2 := Hd hb2; have z2 := hb2.size; rw [World.size_alloc] at z2; have y2 : w.heap.size < w2.heap.size := (by omega); have k2 := hb_below (hb_new w (.cells #[.int .i64 0, .string ⟨#[]⟩, .int .i64 0, .int .i64 0] 159)) hb2 (by simp); have f0 := hb_free k2 0; have f1 := hb_free k2 1; have f2 := hb_free k2 2; have f3 := hb_free k2 3; have r0 := hb_at k2 0 rfl; have r1 := hb_at k2 1 rfl; have r2 := hb_at k2 2 rfl; have r3 := hb_at k2 3 rfl; clear k2; clear hsat hb2)
      | (go_at_call 237; with_reducible refine (HIN.out _ _ HSAT.out).mono ?_; rintro e w3 ⟨rfl, rfl⟩))
     have hB : Below w.heap.size w _ := (below_alloc w (.cells #[.int .i64 0, .string ⟨#[]⟩, .int .i64 0, .int .i64 0] 159)).trans (HB2.out.mono (by simp))
     have k0 := hb_below (hb_new w (.cells #[.int .i64 0, .string ⟨#[]⟩, .int .i64 0, .int .i64 0] 159)) HB2.out (by simp)
     have r0 := hb_at k0 0 rfl
     have r1 := hb_at k0 1 rfl
     have r2 := hb_at k0 2 rfl
     have r3 := hb_at k0 3 rfl
     exact bodyPost_ret (v := .tuple #[Tk.v ⟨1, T, 0⟩ 0, .int .i64 n]) Q38 rfl ⟨rfl, by first | exact hB | exact below_alloc w _ | exact (((hB.setCell (by simp) _).setCell (by simp) _).setCell (by simp) _).setCell (by simp) _⟩
   · rw [hk] at HIN
     rw [if_pos rfl]
     clear hk
     go_enter Tryz.func201, Tryz.ntmps201
     go_wp2_with (first
      | (go_at_call 234; with_reducible refine (HS.out _).mono ?_; rintro e w1 ⟨rfl, rfl⟩)
      | (go_at_call 235; with_reducible refine (HG.out _).mono ?_; rintro e w1 ⟨rfl, rfl⟩)
      | (go_at_call 236; with_reducible refine (HN.out _).mono ?_; rintro e w1 ⟨rfl, rfl⟩)
      | (go_at_call 238; with_reducible refine (HK.out _).mono ?_; rintro e w2 ⟨ck, rfl, hsat, hb2⟩; rw [World.size_alloc] at hsat ⊢; have HSAT := Hd hsat; have HB2 := Hd hb2; have z2 := hb2.size; rw [World.size_alloc] at z2; have y2 : w.heap.size < w2.heap.size := (by omega); have k2 := hb_below (hb_new w (.cells #[.int .i64 0, .string ⟨#[]⟩, .int .i64 0, .int .i64 0] 159)) hb2 (by simp); have f0 := hb_free k2 0; have f1 := hb_free k2 1; have f2 := hb_free k2 2; have f3 := hb_free k2 3; have r0 := hb_at k2 0 rfl; have r1 := hb_at k2 1 rfl; have r2 := hb_at k2 2 rfl; have r3 := hb_at k2 3 rfl; clear k2; clear hsat hb2)
      | (go_at_call 237; with_reducible refine (HIN.out _ _ HSAT.out).mono ?_; rintro e w3 ⟨rfl, rfl⟩))
     have hB : Below w.heap.size w _ := (below_alloc w (.cells #[.int .i64 0, .string ⟨#[]⟩, .int .i64 0, .int .i64 0] 159)).trans (HB2.out.mono (by simp))
     have k0 := hb_below (hb_new w (.cells #[.int .i64 0, .string ⟨#[]⟩, .int .i64 0, .int .i64 0] 159)) HB2.out (by simp)
     have r0 := hb_at k0 0 rfl
     have r1 := hb_at k0 1 rfl
     have r2 := hb_at k0 2 rfl
     have r3 := hb_at k0 3 rfl
     exact bodyPost_ret (v := .tuple #[Tk.v ⟨7, T, 0⟩ 0, .int .i64 n]) Q38 rfl ⟨rfl, by first | exact hB | exact below_alloc w _ | exact (((hB.setCell (by simp) _).setCell (by simp) _).setCell (by simp) _).setCell (by simp) _⟩
 · have e95 : ((s[0].toNat : Int) == 95) = false := by rw [h95]; simpa using (gr_far hg).2.1
   rw [hs] at HS
   rw [hg] at HG ⊢
   clear hc h95 hs hg
   by_cases h30 : 30 < n
   · rw [if_pos h30]
     have d30 : decide ((30 : Int) < (n : Int)) = true := by simp; omega
     clear h30
     go_enter Tryz.func201, Tryz.ntmps201
     go_wp2_with (first
      | (go_at_call 234; with_reducible refine (HS.out _).mono ?_; rintro e w1 ⟨rfl, rfl⟩)
      | (go_at_call 235; with_reducible refine (HG.out _).mono ?_; rintro e w1 ⟨rfl, rfl⟩)
      | (go_at_call 236; with_reducible refine (HN.out _).mono ?_; rintro e w1 ⟨rfl, rfl⟩))
     have hB : Below w.heap.size w _ := below_alloc w (.cells #[.int .i64 0, .string ⟨#[]⟩, .int .i64 0, .int .i64 0] 159)
     have k0 := hb_new w (.cells #[.int .i64 0, .string ⟨#[]⟩, .int .i64 0, .int .i64 0] 159)
     have r0 := hb_at k0 0 rfl
     have r1 := hb_at k0 1 rfl
     have r2 := hb_at k0 2 rfl
     have r3 := hb_at k0 3 rfl
     exact bodyPost_ret (v := .tuple #[tk0.v 0, .int .i64 0]) Q38 rfl ⟨rfl, by first | exact hB | exact below_alloc w _ | exact (((hB.setCell (by simp) _).setCell (by simp) _).setCell (by simp) _).setCell (by simp) _⟩
   rw [if_neg h30]
   have d30 : decide ((30 : Int) < (n : Int)) = false := by simp; omega
   clear h30
   rw [if_pos rfl]
   go_enter Tryz.func201, Tryz.ntmps201
   go_wp2_with (first
     | (go_at_call 234; with_reducible refine (HS.out _).mono ?_; rintro e w1 ⟨rfl, rfl⟩)
     | (go_at_call 235; with_reducible refine (HG.out _).mono ?_; rintro e w1 ⟨rfl, rfl⟩)
     | (go_at_call 236; with_reducible refine (HN.out _).mono ?_; rintro e w1 ⟨rfl, rfl⟩))
   have hB : Below w.heap.size w _ := below_alloc w (.cells #[.int .i64 0, .string ⟨#[]⟩, .int .i64 0, .int .i64 0] 159)
   have k0 := hb_new w (.cells #[.int .i64 0, .string ⟨#[]⟩, .int .i64 0, .int .i64 0] 159)
   have r0 := hb_at k0 0 rfl
   have r1 := hb_at k0 1 rfl
   have r2 := hb_at k0 2 rfl
   have r3 := hb_at k0 3 rfl
   exact bodyPost_ret (v := .tuple #[Tk.v ⟨2, T, 0⟩ 0, .int .i64 n]) Q38 rfl ⟨rfl, by first | exact hB | exact below_alloc w _ | exact (((hB.setCell (by simp) _).setCell (by simp) _).setCell (by simp) _).setCell (by simp) _⟩
 · have e95 : ((s[0].toNat : Int) == 95) = true := by rw [h95]; rw [hs, hg] at hc; simpa using hc
   rw [hs] at HS
   rw [hg] at HG ⊢
   clear hc h95 hs hg
   by_cases h30 : 30 < n
   · rw [if_pos h30]
     have d30 : decide ((30 : Int) < (n : Int)) = true := by simp; omega
     clear h30
     go_enter Tryz.func201, Tryz.ntmps201
     go_wp2_with (first
      | (go_at_call 234; with_reducible refine (HS.out _).mono ?_; rintro e w1 ⟨rfl, rfl⟩)
      | (go_at_call 235; with_reducible refine (HG.out _).mono ?_; rintro e w1 ⟨rfl, rfl⟩)
      | (go_at_call 236; with_reducible refine (HN.out _).mono ?_; rintro e w1 ⟨rfl, rfl⟩))
     have hB : Below w.heap.size w _ := below_alloc w (.cells #[.int .i64 0, .string ⟨#[]⟩, .int .i64 0, .int .i64 0] 159)
     have k0 := hb_new w (.cells #[.int .i64 0, .string ⟨#[]⟩, .int .i64 0, .int .i64 0] 159)
     have r0 := hb_at k0 0 rfl
     have r1 := hb_at k0 1 rfl
     have r2 := hb_at k0 2 rfl
     have r3 := hb_at k0 3 rfl
     exact bodyPost_ret (v := .tuple #[tk0.v 0, .int .i64 0]) Q38 rfl ⟨rfl, by first | exact hB | exact below_alloc w _ | exact (((hB.setCell (by simp) _).setCell (by simp) _).setCell (by simp) _).setCell (by simp) _⟩
   rw [if_neg h30]
   have d30 : decide ((30 : Int) < (n : Int)) = false := by simp; omega
   clear h30
   rw [if_neg (by simp : ¬ (false = true))]
   by_cases ht : T = ⟨#[95]⟩
   · rw [if_pos ht]
     have dt : (T.toList == [95]) = true := by rw [ht, ByteArray.toList_eq]; rfl
     clear ht
     go_enter Tryz.func201, Tryz.ntmps201
     go_wp2_with (first
      | (go_at_call 234; with_reducible refine (HS.out _).mono ?_; rintro e w1 ⟨rfl, rfl⟩)
      | (go_at_call 235; with_reducible refine (HG.out _).mono ?_; rintro e w1 ⟨rfl, rfl⟩)
      | (go_at_call 236; with_reducible refine (HN.out _).mono ?_; rintro e w1 ⟨rfl, rfl⟩))
     have hB : Below w.heap.size w _ := below_alloc w (.cells #[.int .i64 0, .string ⟨#[]⟩, .int .i64 0, .int .i64 0] 159)
     have k0 := hb_new w (.cells #[.int .i64 0, .string ⟨#[]⟩, .int .i64 0, .int .i64 0] 159)
     have r0 := hb_at k0 0 rfl
     have r1 := hb_at k0 1 rfl
     have r2 := hb_at k0 2 rfl
     have r3 := hb_at k0 3 rfl
     exact bodyPost_ret (v := .tuple #[Tk.v ⟨8, T, 0⟩ 0, .int .i64 n]) Q38 rfl ⟨rfl, by first | exact hB | exact below_alloc w _ | exact (((hB.setCell (by simp) _).setCell (by simp) _).setCell (by simp) _).setCell (by simp) _⟩
   rw [if_neg ht]
   have dt : (T.toList == [95]) = false := by rw [beq_eq_false_iff_ne]; exact fun e => ht (toList_injX (b := ⟨#[95]⟩) Q60)
   clear ht
   cases hk : keyB T
   · rw [hk] at HIN
     rw [if_neg (by simp : ¬ (false = true))]
     clear hk
     go_enter Tryz.func201, Tryz.ntmps201
     go_wp2_with (first
      | (go_at_call 234; with_reducible refine (HS.out _).mono ?_; rintro e w1 ⟨rfl, rfl⟩)
      | (go_at_call 235; with_reducible refine (HG.out _).mono ?_; rintro e w1 ⟨rfl, rfl⟩)
      | (go_at_call 236; with_reducible refine (HN.out _).mono ?_; rintro e w1 ⟨rfl, rfl⟩)
      | (go_at_call 238; with_reducible refine (HK.out _).mono ?_; rintro e w2 ⟨ck, rfl, hsat, hb2⟩; rw [World.size_alloc] at hsat ⊢; have HSAT := Hd hsat; have HB2 := Hd hb2; have z2 := hb2.size; rw [World.size_alloc] at z2; have y2 : w.heap.size < w2.heap.size := (by omega); have k2 := hb_below (hb_new w (.cells #[.int .i64 0, .string ⟨#[]⟩, .int .i64 0, .int .i64 0] 159)) hb2 (by simp); have f0 := hb_free k2 0; have f1 := hb_free k2 1; have f2 := hb_free k2 2; have f3 := hb_free k2 3; have r0 := hb_at k2 0 rfl; have r1 := hb_at k2 1 rfl; have r2 := hb_at k2 2 rfl; have r3 := hb_at k2 3 rfl; clear k2; clear hsat hb2)
      | (go_at_call 237; with_reducible refine (HIN.out _ _ HSAT.out).mono ?_; rintro e w3 ⟨rfl, rfl⟩))
     have hB : Below w.heap.size w _ := (below_alloc w (.cells #[.int .i64 0, .string ⟨#[]⟩, .int .i64 0, .int .i64 0] 159)).trans (HB2.out.mono (by simp))
     have k0 := hb_below (hb_new w (.cells #[.int .i64 0, .string ⟨#[]⟩, .int .i64 0, .int .i64 0] 159)) HB2.out (by simp)
     have r0 := hb_at k0 0 rfl
     have r1 := hb_at k0 1 rfl
     have r2 := hb_at k0 2 rfl
     have r3 := hb_at k0 3 rfl
     exact bodyPost_ret (v := .tuple #[Tk.v ⟨1, T, 0⟩ 0, .int .i64 n]) Q38 rfl ⟨rfl, by first | exact hB | exact below_alloc w _ | exact (((hB.setCell (by simp) _).setCell (by simp) _).setCell (by simp) _).setCell (by simp) _⟩
   · rw [hk] at HIN
     rw [if_pos rfl]
     clear hk
     go_enter Tryz.func201, Tryz.ntmps201
     go_wp2_with (first
      | (go_at_call 234; with_reducible refine (HS.out _).mono ?_; rintro e w1 ⟨rfl, rfl⟩)
      | (go_at_call 235; with_reducible refine (HG.out _).mono ?_; rintro e w1 ⟨rfl, rfl⟩)
      | (go_at_call 236; with_reducible refine (HN.out _).mono ?_; rintro e w1 ⟨rfl, rfl⟩)
      | (go_at_call 238; with_reducible refine (HK.out _).mono ?_; rintro e w2 ⟨ck, rfl, hsat, hb2⟩; rw [World.size_alloc] at hsat ⊢; have HSAT := Hd hsat; have HB2 := Hd hb2; have z2 := hb2.size; rw [World.size_alloc] at z2; have y2 : w.heap.size < w2.heap.size := (by omega); have k2 := hb_below (hb_new w (.cells #[.int .i64 0, .string ⟨#[]⟩, .int .i64 0, .int .i64 0] 159)) hb2 (by simp); have f0 := hb_free k2 0; have f1 := hb_free k2 1; have f2 := hb_free k2 2; have f3 := hb_free k2 3; have r0 := hb_at k2 0 rfl; have r1 := hb_at k2 1 rfl; have r2 := hb_at k2 2 rfl; have r3 := hb_at k2 3 rfl; clear k2; clear hsat hb2)
      | (go_at_call 237; with_reducible refine (HIN.out _ _ HSAT.out).mono ?_; rintro e w3 ⟨rfl, rfl⟩))
     have hB : Below w.heap.size w _ := (below_alloc w (.cells #[.int .i64 0, .string ⟨#[]⟩, .int .i64 0, .int .i64 0] 159)).trans (HB2.out.mono (by simp))
     have k0 := hb_below (hb_new w (.cells #[.int .i64 0, .string ⟨#[]⟩, .int .i64 0, .int .i64 0] 159)) HB2.out (by simp)
     have r0 := hb_at k0 0 rfl
     have r1 := hb_at k0 1 rfl
     have r2 := hb_at k0 2 rfl
     have r3 := hb_at k0 3 rfl
     exact bodyPost_ret (v := .tuple #[Tk.v ⟨7, T, 0⟩ 0, .int .i64 n]) Q38 rfl ⟨rfl, by first | exact hB | exact below_alloc w _ | exact (((hB.setCell (by simp) _).setCell (by simp) _).setCell (by simp) _).setCell (by simp) _⟩
def varO (l : List UInt8) : Tk × Nat := if cnt vrB (l.drop 1) = 0 ∨ 29 < cnt vrB (l.drop 1) ∨ headS l[1]? = false then (tk0, 0) else (⟨3, ofL ((l.drop 1).take (cnt vrB (l.drop 1))), 0⟩, 1 + cnt vrB (l.drop 1))
theorem cutL (s : ByteArray) (a e : Nat) : s.extract a e = ofL ((s.data.toList.drop a).take (e - a)) := by
 apply toList_injX
 rw [ByteArray.toList_eq, ByteArray.data_extract, Array.toList_extract, List.extract_eq_take_drop, ByteArray.toList_eq]
theorem one_var (s : ByteArray) (hm : s.size ≤ 4194304) (h0 : 0 < s.size) (h39 : s[0].toNat = 39) (w : World) :
 Calls Tryz.prog 201 #[.string s, .int .i64 0] w fun e w' => e = .returned (.tuple #[(varO s.data.toList).1.v 0, .int .i64 (varO s.data.toList).2]) ∧ Below w.heap.size w w' := by
 have hci : (0 : Int) < (s.size : Int) := by omega
 have fS : smB s[0] = false := by unfold smB; simp; omega
 have fG : grB s[0] = false := by unfold grB; simp; omega
 have HS := Hd (fun W => smD_any s[0] W)
 have HG := Hd (fun W => grD_any s[0] W)
 rw [fS] at HS
 rw [fG] at HG
 have e95 : ((s[0].toNat : Int) == 95) = false := by rw [h39]; rfl
 have e39 : ((s[0].toNat : Int) == 39) = true := by rw [h39]; rfl
 have HN := Hd (fun W => named1_any s hm h0 W)
 have hle := cnt_le vrB (s.data.toList.drop 1)
 rw [List.length_drop, len_list] at hle
 have hE : varO s.data.toList = (if cnt vrB (s.data.toList.drop 1) = 0 ∨ 29 < cnt vrB (s.data.toList.drop 1) ∨ headS s.data.toList[1]? = false then (tk0, 0) else (⟨3, s.extract 1 (1 + cnt vrB (s.data.toList.drop 1)), 0⟩, 1 + cnt vrB (s.data.toList.drop 1))) := by
  unfold varO
  rw [cutL, Nat.add_sub_cancel_left]
 rw [hE]
 clear hE fS fG h39
 generalize cnt vrB (s.data.toList.drop 1) = n at *
 by_cases hn0 : n = 0
 · rw [if_pos (.inl hn0)]
   subst hn0
   go_enter Tryz.func201, Tryz.ntmps201
   go_wp2_with (first
    | (go_at_call 234; with_reducible refine (HS.out _).mono ?_; rintro e w1 ⟨rfl, rfl⟩)
    | (go_at_call 235; with_reducible refine (HG.out _).mono ?_; rintro e w1 ⟨rfl, rfl⟩)
    | (go_at_call 236; with_reducible refine (HN.out _).mono ?_; rintro e w1 ⟨rfl, rfl⟩))
   all_goals
    have hB : Below w.heap.size w _ := below_alloc w (.cells #[.int .i64 0, .string ⟨#[]⟩, .int .i64 0, .int .i64 0] 159)
    have k0 := hb_new w (.cells #[.int .i64 0, .string ⟨#[]⟩, .int .i64 0, .int .i64 0] 159)
    have r0 := hb_at k0 0 rfl
    have r1 := hb_at k0 1 rfl
    have r2 := hb_at k0 2 rfl
    have r3 := hb_at k0 3 rfl
    exact bodyPost_ret (v := .tuple #[tk0.v 0, .int .i64 0]) Q38 rfl ⟨rfl, by first | exact hB | exact below_alloc w _ | exact (((hB.setCell (by simp) _).setCell (by simp) _).setCell (by simp) _).setCell (by simp) _⟩
 have n0 : ((n : Int) == 0) = false := by rw [beq_eq_false_iff_ne]; omega
 by_cases h29 : 29 < n
 · rw [if_pos (.inr (.inl h29))]
   have d30 : decide ((30 : Int) < (n : Int) + 1) = true := by simp; omega
   go_enter Tryz.func201, Tryz.ntmps201
   go_wp2_with (first
    | (go_at_call 234; with_reducible refine (HS.out _).mono ?_; rintro e w1 ⟨rfl, rfl⟩)
    | (go_at_call 235; with_reducible refine (HG.out _).mono ?_; rintro e w1 ⟨rfl, rfl⟩)
    | (go_at_call 236; with_reducible refine (HN.out _).mono ?_; rintro e w1 ⟨rfl, rfl⟩))
   all_goals
    have hB : Below w.heap.size w _ := below_alloc w (.cells #[.int .i64 0, .string ⟨#[]⟩, .int .i64 0, .int .i64 0] 159)
    have k0 := hb_new w (.cells #[.int .i64 0, .string ⟨#[]⟩, .int .i64 0, .int .i64 0] 159)
    have r0 := hb_at k0 0 rfl
    have r1 := hb_at k0 1 rfl
    have r2 := hb_at k0 2 rfl
    have r3 := hb_at k0 3 rfl
    exact bodyPost_ret (v := .tuple #[tk0.v 0, .int .i64 0]) Q38 rfl ⟨rfl, by first | exact hB | exact below_alloc w _ | exact (((hB.setCell (by simp) _).setCell (by simp) _).setCell (by simp) _).setCell (by simp) _⟩
 have d30 : decide ((30 : Int) < (n : Int) + 1) = false := by simp; omega
 have h1 : 1 < s.size := by omega
 have h1i : (1 : Int) < (s.size : Int) := by omega
 have hni : 1 + (n : Int) ≤ (s.size : Int) := by omega
 rw [at_list s 1 h1]
 rw [show headS (some s[1]) = smB s[1] from rfl]
 have HS1 := Hd (fun W => smD_any s[1] W)
 rcases (Bool.eq_false_or_eq_true (smB s[1])).symm with hb | hb
 · rw [if_pos (.inr (.inr hb))]
   rw [hb] at HS1
   clear hb
   go_enter Tryz.func201, Tryz.ntmps201
   go_wp2_with (first
    | (go_at_call 234; with_reducible refine (HS.out _).mono ?_; rintro e w1 ⟨rfl, rfl⟩)
    | (go_at_call 234; with_reducible refine (HS1.out _).mono ?_; rintro e w1 ⟨rfl, rfl⟩)
    | (go_at_call 235; with_reducible refine (HG.out _).mono ?_; rintro e w1 ⟨rfl, rfl⟩)
    | (go_at_call 236; with_reducible refine (HN.out _).mono ?_; rintro e w1 ⟨rfl, rfl⟩))
   all_goals
    have hB : Below w.heap.size w _ := below_alloc w (.cells #[.int .i64 0, .string ⟨#[]⟩, .int .i64 0, .int .i64 0] 159)
    have k0 := hb_new w (.cells #[.int .i64 0, .string ⟨#[]⟩, .int .i64 0, .int .i64 0] 159)
    have r0 := hb_at k0 0 rfl
    have r1 := hb_at k0 1 rfl
    have r2 := hb_at k0 2 rfl
    have r3 := hb_at k0 3 rfl
    exact bodyPost_ret (v := .tuple #[tk0.v 0, .int .i64 0]) Q38 rfl ⟨rfl, by first | exact hB | exact below_alloc w _ | exact (((hB.setCell (by simp) _).setCell (by simp) _).setCell (by simp) _).setCell (by simp) _⟩
 · rw [if_neg (by rw [hb]; simp; omega)]
   rw [hb] at HS1
   clear hb
   go_enter Tryz.func201, Tryz.ntmps201
   go_wp2_with (first
    | (go_at_call 234; with_reducible refine (HS.out _).mono ?_; rintro e w1 ⟨rfl, rfl⟩)
    | (go_at_call 234; with_reducible refine (HS1.out _).mono ?_; rintro e w1 ⟨rfl, rfl⟩)
    | (go_at_call 235; with_reducible refine (HG.out _).mono ?_; rintro e w1 ⟨rfl, rfl⟩)
    | (go_at_call 236; with_reducible refine (HN.out _).mono ?_; rintro e w1 ⟨rfl, rfl⟩))
   all_goals
    have hB : Below w.heap.size w _ := below_alloc w (.cells #[.int .i64 0, .string ⟨#[]⟩, .int .i64 0, .int .i64 0] 159)
    have k0 := hb_new w (.cells #[.int .i64 0, .string ⟨#[]⟩, .int .i64 0, .int .i64 0] 159)
    have r0 := hb_at k0 0 rfl
    have r1 := hb_at k0 1 rfl
    have r2 := hb_at k0 2 rfl
    have r3 := hb_at k0 3 rfl
    exact bodyPost_ret (v := .tuple #[Tk.v ⟨3, s.extract 1 (1 + n), 0⟩ 0, .int .i64 ((1 + n : Nat))]) (by simp [results, Tryz.results201, go_sem, r0, r1, r2, r3, tk0, Tk.v]; omega) rfl ⟨rfl, by first | exact hB | exact below_alloc w _ | exact (((hB.setCell (by simp) _).setCell (by simp) _).setCell (by simp) _).setCell (by simp) _⟩

theorem one_int0 (s : ByteArray) (hm : s.size ≤ 4194304) (h0 : 0 < s.size) (hd : dgB s[0] = true) (hv : verD s.data.toList = 0) (w : World) :
 Calls Tryz.prog 201 #[.string s, .int .i64 0] w fun e w' => e = .returned (.tuple #[(intDD s.data.toList 0).1.v 0, .int .i64 (intDD s.data.toList 0).2]) ∧ Below w.heap.size w w' := by
 have hci : (0 : Int) < (s.size : Int) := by omega
 have HS := Hd (fun W => smD_any s[0] W)
 have HG := Hd (fun W => grD_any s[0] W)
 have HD := Hd (fun W => digD_any s[0] W)
 obtain ⟨fS, fG, n95, n39, n34, n45, _⟩ := dg_far hd
 rw [fS] at HS
 rw [fG] at HG
 rw [hd] at HD
 have HV := Hd (fun W => version_doc s hm W)
 rw [hv] at HV
 have e95 : ((s[0].toNat : Int) == 95) = false := by rw [beq_eq_false_iff_ne]; omega
 have e39 : ((s[0].toNat : Int) == 39) = false := by rw [beq_eq_false_iff_ne]; omega
 have e34 : ((s[0].toNat : Int) == 34) = false := by rw [beq_eq_false_iff_ne]; omega
 have e45 : ((s[0].toNat : Int) == 45) = false := by rw [beq_eq_false_iff_ne]; omega
 have HDS := Hd (fun W => digits0_any s hm W)
 have hdrop : s.data.toList.drop 0 = s.data.toList := List.drop_zero
 have hle := cnt_le dgB s.data.toList
 rw [len_list] at hle
 have hE : intDD s.data.toList 0 = (if cnt dgB s.data.toList = 0 ∨ 18 < cnt dgB s.data.toList ∨ (1 < cnt dgB s.data.toList ∧ zhB s.data.toList = true) then (tk0, 0) else (⟨4, ⟨#[]⟩, (Sv.val (s.extract 0 (cnt dgB s.data.toList)).data.toList : Nat)⟩, cnt dgB s.data.toList)) := by
  unfold intDD
  rw [hdrop, ext0, ofL_list]
  by_cases hc : cnt dgB s.data.toList = 0 ∨ 18 < cnt dgB s.data.toList ∨ (1 < cnt dgB s.data.toList ∧ zhB s.data.toList = true)
  · rw [if_pos hc, if_pos]
    rcases hc with h | h | h
    · exact .inl h
    · exact .inr (.inl h)
    · exact .inr (.inr (.inl h))
  · rw [if_neg hc, if_neg]
    · simp
    · rintro (h | h | h | ⟨h, _⟩)
      · exact hc (.inl h)
      · exact hc (.inr (.inl h))
      · exact hc (.inr (.inr h))
      · omega
 rw [hE]
 have hall : ∀ c ∈ (s.extract 0 (cnt dgB s.data.toList)).data.toList, dgB c = true := by
  rw [ext0, ofL_list, take_cnt]
  exact takeW_all dgB _
 have hz := zh_at h0
 clear hE hd hv fS fG n95 n39 n34 n45 hdrop
 generalize cnt dgB s.data.toList = n at *
 by_cases hn0 : n = 0
 · rw [if_pos (.inl hn0)]
   subst hn0
   go_enter Tryz.func201, Tryz.ntmps201
   go_wp2_with (first
    | (go_at_call 234; with_reducible refine (HS.out _).mono ?_; rintro e w1 ⟨rfl, rfl⟩)
    | (go_at_call 235; with_reducible refine (HG.out _).mono ?_; rintro e w1 ⟨rfl, rfl⟩)
    | (go_at_call 240; with_reducible refine (HD.out _).mono ?_; rintro e w1 ⟨rfl, rfl⟩)
    | (go_at_call 241; with_reducible refine (HV.out _).mono ?_; rintro e w4 ⟨rfl, hb4⟩; have HB4 := Hd hb4; have z4 := hb4.size; rw [World.size_alloc] at z4; have y4 : w.heap.size < w4.heap.size := (by omega); have k4 := hb_below (hb_new w (.cells #[.int .i64 0, .string ⟨#[]⟩, .int .i64 0, .int .i64 0] 159)) hb4 (by simp); have f0 := hb_free k4 0; have f1 := hb_free k4 1; have f2 := hb_free k4 2; have f3 := hb_free k4 3; have r0 := hb_at k4 0 rfl; have r1 := hb_at k4 1 rfl; have r2 := hb_at k4 2 rfl; have r3 := hb_at k4 3 rfl; clear k4; clear hb4)
    | (go_at_call 242; with_reducible refine (HDS.out _).mono ?_; rintro e w1 ⟨rfl, rfl⟩))
   all_goals
    have hB : Below w.heap.size w _ := (below_alloc w (.cells #[.int .i64 0, .string ⟨#[]⟩, .int .i64 0, .int .i64 0] 159)).trans (HB4.out.mono (by simp))
    have k0 := hb_below (hb_new w (.cells #[.int .i64 0, .string ⟨#[]⟩, .int .i64 0, .int .i64 0] 159)) HB4.out (by simp)
    have r0 := hb_at k0 0 rfl
    have r1 := hb_at k0 1 rfl
    have r2 := hb_at k0 2 rfl
    have r3 := hb_at k0 3 rfl
    exact bodyPost_ret (v := .tuple #[tk0.v 0, .int .i64 0]) Q38 rfl ⟨rfl, by first | exact hB | exact below_alloc w _ | exact (((hB.setCell (by simp) _).setCell (by simp) _).setCell (by simp) _).setCell (by simp) _⟩
 have n0 : ((n : Int) == 0) = false := by rw [beq_eq_false_iff_ne]; omega
 by_cases h18 : 18 < n
 · rw [if_pos (.inr (.inl h18))]
   have d18 : decide ((18 : Int) < (n : Int)) = true := by simp; omega
   go_enter Tryz.func201, Tryz.ntmps201
   go_wp2_with (first
    | (go_at_call 234; with_reducible refine (HS.out _).mono ?_; rintro e w1 ⟨rfl, rfl⟩)
    | (go_at_call 235; with_reducible refine (HG.out _).mono ?_; rintro e w1 ⟨rfl, rfl⟩)
    | (go_at_call 240; with_reducible refine (HD.out _).mono ?_; rintro e w1 ⟨rfl, rfl⟩)
    | (go_at_call 241; with_reducible refine (HV.out _).mono ?_; rintro e w4 ⟨rfl, hb4⟩; have HB4 := Hd hb4; have z4 := hb4.size; rw [World.size_alloc] at z4; have y4 : w.heap.size < w4.heap.size := (by omega); have k4 := hb_below (hb_new w (.cells #[.int .i64 0, .string ⟨#[]⟩, .int .i64 0, .int .i64 0] 159)) hb4 (by simp); have f0 := hb_free k4 0; have f1 := hb_free k4 1; have f2 := hb_free k4 2; have f3 := hb_free k4 3; have r0 := hb_at k4 0 rfl; have r1 := hb_at k4 1 rfl; have r2 := hb_at k4 2 rfl; have r3 := hb_at k4 3 rfl; clear k4; clear hb4)
    | (go_at_call 242; with_reducible refine (HDS.out _).mono ?_; rintro e w1 ⟨rfl, rfl⟩))
   all_goals
    have hB : Below w.heap.size w _ := (below_alloc w (.cells #[.int .i64 0, .string ⟨#[]⟩, .int .i64 0, .int .i64 0] 159)).trans (HB4.out.mono (by simp))
    have k0 := hb_below (hb_new w (.cells #[.int .i64 0, .string ⟨#[]⟩, .int .i64 0, .int .i64 0] 159)) HB4.out (by simp)
    have r0 := hb_at k0 0 rfl
    have r1 := hb_at k0 1 rfl
    have r2 := hb_at k0 2 rfl
    have r3 := hb_at k0 3 rfl
    exact bodyPost_ret (v := .tuple #[tk0.v 0, .int .i64 0]) Q38 rfl ⟨rfl, by first | exact hB | exact below_alloc w _ | exact (((hB.setCell (by simp) _).setCell (by simp) _).setCell (by simp) _).setCell (by simp) _⟩
 have d18 : decide ((18 : Int) < (n : Int)) = false := by simp; omega
 have HNU := Hd (fun W => numberD_any (s.extract 0 n) hall Q55 W)
 have hvl := Sv.val_lt (s.extract 0 n).data.toList (fun c hc => by rw [← dg_is]; exact hall c hc)
 have hsz : (s.extract 0 n).data.toList.length ≤ 18 := by rw [len_list, ByteArray.size_extract]; omega
 have h10 : 10 ^ (s.extract 0 n).data.toList.length ≤ 10 ^ 18 := Nat.pow_le_pow_right (by decide) hsz
 have h1018 : (10 : Nat) ^ 18 = 1000000000000000000 := by decide
 generalize Sv.val (s.extract 0 n).data.toList = V at *
 have hVb : V ≤ 1000000000000000000 := by omega
 clear hvl hsz h10 h1018 hall
 have hni : (n : Int) ≤ (s.size : Int) := by omega
 cases hb : ((s[0].toNat : Int) == 48)
 · rw [if_neg (by rw [hz, hb]; simp; omega)]
   clear hz
   go_enter Tryz.func201, Tryz.ntmps201
   go_wp2_with (first
    | (go_at_call 234; with_reducible refine (HS.out _).mono ?_; rintro e w1 ⟨rfl, rfl⟩)
    | (go_at_call 235; with_reducible refine (HG.out _).mono ?_; rintro e w1 ⟨rfl, rfl⟩)
    | (go_at_call 240; with_reducible refine (HD.out _).mono ?_; rintro e w1 ⟨rfl, rfl⟩)
    | (go_at_call 241; with_reducible refine (HV.out _).mono ?_; rintro e w4 ⟨rfl, hb4⟩; have HB4 := Hd hb4; have z4 := hb4.size; rw [World.size_alloc] at z4; have y4 : w.heap.size < w4.heap.size := (by omega); have k4 := hb_below (hb_new w (.cells #[.int .i64 0, .string ⟨#[]⟩, .int .i64 0, .int .i64 0] 159)) hb4 (by simp); have f0 := hb_free k4 0; have f1 := hb_free k4 1; have f2 := hb_free k4 2; have f3 := hb_free k4 3; have r0 := hb_at k4 0 rfl; have r1 := hb_at k4 1 rfl; have r2 := hb_at k4 2 rfl; have r3 := hb_at k4 3 rfl; clear k4; clear hb4)
    | (go_at_call 242; with_reducible refine (HDS.out _).mono ?_; rintro e w1 ⟨rfl, rfl⟩)
    | (go_at_call 243; with_reducible refine (HNU.out _).mono ?_; rintro e w1 ⟨rfl, rfl⟩))
   all_goals
    have hB : Below w.heap.size w _ := (below_alloc w (.cells #[.int .i64 0, .string ⟨#[]⟩, .int .i64 0, .int .i64 0] 159)).trans (HB4.out.mono (by simp))
    have k0 := hb_below (hb_new w (.cells #[.int .i64 0, .string ⟨#[]⟩, .int .i64 0, .int .i64 0] 159)) HB4.out (by simp)
    have r0 := hb_at k0 0 rfl
    have r1 := hb_at k0 1 rfl
    have r2 := hb_at k0 2 rfl
    have r3 := hb_at k0 3 rfl
    exact bodyPost_ret (v := .tuple #[Tk.v ⟨4, ⟨#[]⟩, (V : Nat)⟩ 0, .int .i64 n]) Q38 rfl ⟨rfl, by first | exact hB | exact below_alloc w _ | exact (((hB.setCell (by simp) _).setCell (by simp) _).setCell (by simp) _).setCell (by simp) _⟩
 · by_cases h1 : 1 < n
   · rw [if_pos (.inr (.inr ⟨h1, by rw [hz, hb]⟩))]
     have d1 : decide ((1 : Int) < (n : Int)) = true := by simp; omega
     clear hz
     go_enter Tryz.func201, Tryz.ntmps201
     go_wp2_with (first
      | (go_at_call 234; with_reducible refine (HS.out _).mono ?_; rintro e w1 ⟨rfl, rfl⟩)
      | (go_at_call 235; with_reducible refine (HG.out _).mono ?_; rintro e w1 ⟨rfl, rfl⟩)
      | (go_at_call 240; with_reducible refine (HD.out _).mono ?_; rintro e w1 ⟨rfl, rfl⟩)
      | (go_at_call 241; with_reducible refine (HV.out _).mono ?_; rintro e w4 ⟨rfl, hb4⟩; have HB4 := Hd hb4; have z4 := hb4.size; rw [World.size_alloc] at z4; have y4 : w.heap.size < w4.heap.size := (by omega); have k4 := hb_below (hb_new w (.cells #[.int .i64 0, .string ⟨#[]⟩, .int .i64 0, .int .i64 0] 159)) hb4 (by simp); have f0 := hb_free k4 0; have f1 := hb_free k4 1; have f2 := hb_free k4 2; have f3 := hb_free k4 3; have r0 := hb_at k4 0 rfl; have r1 := hb_at k4 1 rfl; have r2 := hb_at k4 2 rfl; have r3 := hb_at k4 3 rfl; clear k4; clear hb4)
      | (go_at_call 242; with_reducible refine (HDS.out _).mono ?_; rintro e w1 ⟨rfl, rfl⟩))
     all_goals
      have hB : Below w.heap.size w _ := (below_alloc w (.cells #[.int .i64 0, .string ⟨#[]⟩, .int .i64 0, .int .i64 0] 159)).trans (HB4.out.mono (by simp))
      have k0 := hb_below (hb_new w (.cells #[.int .i64 0, .string ⟨#[]⟩, .int .i64 0, .int .i64 0] 159)) HB4.out (by simp)
      have r0 := hb_at k0 0 rfl
      have r1 := hb_at k0 1 rfl
      have r2 := hb_at k0 2 rfl
      have r3 := hb_at k0 3 rfl
      exact bodyPost_ret (v := .tuple #[tk0.v 0, .int .i64 0]) Q38 rfl ⟨rfl, by first | exact hB | exact below_alloc w _ | exact (((hB.setCell (by simp) _).setCell (by simp) _).setCell (by simp) _).setCell (by simp) _⟩
   · rw [if_neg (by rw [hz, hb]; simp; omega)]
     have d1 : decide ((1 : Int) < (n : Int)) = false := by simp; omega
     clear hz
     go_enter Tryz.func201, Tryz.ntmps201
     go_wp2_with (first
      | (go_at_call 234; with_reducible refine (HS.out _).mono ?_; rintro e w1 ⟨rfl, rfl⟩)
      | (go_at_call 235; with_reducible refine (HG.out _).mono ?_; rintro e w1 ⟨rfl, rfl⟩)
      | (go_at_call 240; with_reducible refine (HD.out _).mono ?_; rintro e w1 ⟨rfl, rfl⟩)
      | (go_at_call 241; with_reducible refine (HV.out _).mono ?_; rintro e w4 ⟨rfl, hb4⟩; have HB4 := Hd hb4; have z4 := hb4.size; rw [World.size_alloc] at z4; have y4 : w.heap.size < w4.heap.size := (by omega); have k4 := hb_below (hb_new w (.cells #[.int .i64 0, .string ⟨#[]⟩, .int .i64 0, .int .i64 0] 159)) hb4 (by simp); have f0 := hb_free k4 0; have f1 := hb_free k4 1; have f2 := hb_free k4 2; have f3 := hb_free k4 3; have r0 := hb_at k4 0 rfl; have r1 := hb_at k4 1 rfl; have r2 := hb_at k4 2 rfl; have r3 := hb_at k4 3 rfl; clear k4; clear hb4)
      | (go_at_call 242; with_reducible refine (HDS.out _).mono ?_; rintro e w1 ⟨rfl, rfl⟩)
      | (go_at_call 243; with_reducible refine (HNU.out _).mono ?_; rintro e w1 ⟨rfl, rfl⟩))
     all_goals
      have hB : Below w.heap.size w _ := (below_alloc w (.cells #[.int .i64 0, .string ⟨#[]⟩, .int .i64 0, .int .i64 0] 159)).trans (HB4.out.mono (by simp))
      have k0 := hb_below (hb_new w (.cells #[.int .i64 0, .string ⟨#[]⟩, .int .i64 0, .int .i64 0] 159)) HB4.out (by simp)
      have r0 := hb_at k0 0 rfl
      have r1 := hb_at k0 1 rfl
      have r2 := hb_at k0 2 rfl
      have r3 := hb_at k0 3 rfl
      exact bodyPost_ret (v := .tuple #[Tk.v ⟨4, ⟨#[]⟩, (V : Nat)⟩ 0, .int .i64 n]) Q38 rfl ⟨rfl, by first | exact hB | exact below_alloc w _ | exact (((hB.setCell (by simp) _).setCell (by simp) _).setCell (by simp) _).setCell (by simp) _⟩
theorem one_int1 (s : ByteArray) (hm : s.size ≤ 4194304) (h0 : 0 < s.size) (h45 : s[0].toNat = 45) (hp : s.data.toList.take 2 ≠ [45, 62]) (w : World) :
 Calls Tryz.prog 201 #[.string s, .int .i64 0] w fun e w' => e = .returned (.tuple #[(intDD s.data.toList 1).1.v 0, .int .i64 (intDD s.data.toList 1).2]) ∧ Below w.heap.size w w' := by
 have hci : (0 : Int) < (s.size : Int) := by omega
 have HS := Hd (fun W => smD_any s[0] W)
 have HG := Hd (fun W => grD_any s[0] W)
 have HD := Hd (fun W => digD_any s[0] W)
 have fS : smB s[0] = false := by unfold smB; simp; omega
 have fG : grB s[0] = false := by unfold grB; simp; omega
 have fD : dgB s[0] = false := by unfold dgB; simp; omega
 rw [fS] at HS
 rw [fG] at HG
 rw [fD] at HD
 have e95 : ((s[0].toNat : Int) == 95) = false := by rw [h45]; rfl
 have e39 : ((s[0].toNat : Int) == 39) = false := by rw [h45]; rfl
 have e34 : ((s[0].toNat : Int) == 34) = false := by rw [h45]; rfl
 have e45 : ((s[0].toNat : Int) == 45) = true := by rw [h45]; rfl
 have HP : (1 < s.size ∧ ∃ h : 1 < s.size, ((s[1].toNat : Int) == 62) = false) ∨ ¬ 1 < s.size := by
  by_cases h1 : 1 < s.size
  · refine .inl ⟨h1, h1, ?_⟩
    rw [beq_eq_false_iff_ne]
    intro e
    exact hp ((take2_at h1 h45).2 (by omega))
  · exact .inr h1
 have HDS := Hd (fun W => digitsB_any s hm h0 W)
 have hle := cnt_le dgB (s.data.toList.drop 1)
 rw [List.length_drop, len_list] at hle
 have hE : intDD s.data.toList 1 = (if cnt dgB (s.data.toList.drop 1) = 0 ∨ 18 < cnt dgB (s.data.toList.drop 1) ∨ (zhB (s.data.toList.drop 1) = true) then (tk0, 0) else (⟨4, ⟨#[]⟩, -(Sv.val (s.extract 1 (1 + cnt dgB (s.data.toList.drop 1))).data.toList : Nat)⟩, 1 + cnt dgB (s.data.toList.drop 1))) := by
  unfold intDD
  rw [cutL, Nat.add_sub_cancel_left, ofL_list]
  by_cases hc : cnt dgB (s.data.toList.drop 1) = 0 ∨ 18 < cnt dgB (s.data.toList.drop 1) ∨ (zhB (s.data.toList.drop 1) = true)
  · rw [if_pos hc, if_pos]
    rcases hc with h | h | h
    · exact .inl h
    · exact .inr (.inl h)
    · exact .inr (.inr (.inr ⟨rfl, h⟩))
  · rw [if_neg hc, if_neg]
    · simp
    · rintro (h | h | ⟨_, h⟩ | ⟨_, h⟩)
      · exact hc (.inl h)
      · exact hc (.inr (.inl h))
      · exact hc (.inr (.inr h))
      · exact hc (.inr (.inr h))
 rw [hE]
 have hall : ∀ c ∈ (s.extract 1 (1 + cnt dgB (s.data.toList.drop 1))).data.toList, dgB c = true := by
  rw [cutL, Nat.add_sub_cancel_left, ofL_list, take_cnt]
  exact takeW_all dgB _
 have hz : ∀ h : 1 < s.size, zhB (s.data.toList.drop 1) = ((s[1].toNat : Int) == 48) := by
  intro h
  have h2 := zh_at (s := s.extract 1 s.size) (by rw [sfx_size]; omega)
  rw [sfx_list] at h2
  rw [h2]
  have h3 := at_list (s.extract 1 s.size) 0 (by rw [sfx_size]; omega)
  rw [sfx_list, List.getElem?_drop, at_list s 1 h] at h3
  rw [← Option.some.inj h3]
 clear hE fS fG fD h45 hp
 generalize cnt dgB (s.data.toList.drop 1) = n at *
 rcases HP with ⟨h1, h1', hne⟩ | h1
 · have h1i : (1 : Int) < (s.size : Int) := by omega
   by_cases hn0 : n = 0
   · rw [if_pos (.inl hn0)]
     subst hn0
     go_enter Tryz.func201, Tryz.ntmps201
     go_wp2_with (first
      | (go_at_call 234; with_reducible refine (HS.out _).mono ?_; rintro e w1 ⟨rfl, rfl⟩)
      | (go_at_call 235; with_reducible refine (HG.out _).mono ?_; rintro e w1 ⟨rfl, rfl⟩)
      | (go_at_call 240; with_reducible refine (HD.out _).mono ?_; rintro e w1 ⟨rfl, rfl⟩)
      | (go_at_call 242; with_reducible refine (HDS.out _).mono ?_; rintro e w1 ⟨rfl, rfl⟩))
     all_goals
      have hB : Below w.heap.size w _ := below_alloc w (.cells #[.int .i64 0, .string ⟨#[]⟩, .int .i64 0, .int .i64 0] 159)
      have k0 := hb_new w (.cells #[.int .i64 0, .string ⟨#[]⟩, .int .i64 0, .int .i64 0] 159)
      have r0 := hb_at k0 0 rfl
      have r1 := hb_at k0 1 rfl
      have r2 := hb_at k0 2 rfl
      have r3 := hb_at k0 3 rfl
      exact bodyPost_ret (v := .tuple #[tk0.v 0, .int .i64 0]) Q38 rfl ⟨rfl, by first | exact hB | exact below_alloc w _ | exact (((hB.setCell (by simp) _).setCell (by simp) _).setCell (by simp) _).setCell (by simp) _⟩
   have n0 : ((n : Int) == 0) = false := by rw [beq_eq_false_iff_ne]; omega
   by_cases h18 : 18 < n
   · rw [if_pos (.inr (.inl h18))]
     have d18 : decide ((18 : Int) < (n : Int)) = true := by simp; omega
     go_enter Tryz.func201, Tryz.ntmps201
     go_wp2_with (first
      | (go_at_call 234; with_reducible refine (HS.out _).mono ?_; rintro e w1 ⟨rfl, rfl⟩)
      | (go_at_call 235; with_reducible refine (HG.out _).mono ?_; rintro e w1 ⟨rfl, rfl⟩)
      | (go_at_call 240; with_reducible refine (HD.out _).mono ?_; rintro e w1 ⟨rfl, rfl⟩)
      | (go_at_call 242; with_reducible refine (HDS.out _).mono ?_; rintro e w1 ⟨rfl, rfl⟩))
     all_goals
      have hB : Below w.heap.size w _ := below_alloc w (.cells #[.int .i64 0, .string ⟨#[]⟩, .int .i64 0, .int .i64 0] 159)
      have k0 := hb_new w (.cells #[.int .i64 0, .string ⟨#[]⟩, .int .i64 0, .int .i64 0] 159)
      have r0 := hb_at k0 0 rfl
      have r1 := hb_at k0 1 rfl
      have r2 := hb_at k0 2 rfl
      have r3 := hb_at k0 3 rfl
      exact bodyPost_ret (v := .tuple #[tk0.v 0, .int .i64 0]) Q38 rfl ⟨rfl, by first | exact hB | exact below_alloc w _ | exact (((hB.setCell (by simp) _).setCell (by simp) _).setCell (by simp) _).setCell (by simp) _⟩
   have d18 : decide ((18 : Int) < (n : Int)) = false := by simp; omega
   have HNU := Hd (fun W => numberD_any (s.extract 1 (1 + n)) hall Q55 W)
   have hvl := Sv.val_lt (s.extract 1 (1 + n)).data.toList (fun c hc => by rw [← dg_is]; exact hall c hc)
   have hsz : (s.extract 1 (1 + n)).data.toList.length ≤ 18 := by rw [len_list, ByteArray.size_extract]; omega
   have h10 : 10 ^ (s.extract 1 (1 + n)).data.toList.length ≤ 10 ^ 18 := Nat.pow_le_pow_right (by decide) hsz
   have h1018 : (10 : Nat) ^ 18 = 1000000000000000000 := by decide
   generalize Sv.val (s.extract 1 (1 + n)).data.toList = V at *
   have hVb : V ≤ 1000000000000000000 := by omega
   clear hvl hsz h10 h1018 hall
   have h2 : 1 < s.size := by omega
   have h2i : (1 : Int) < (s.size : Int) := by omega
   have hni : 1 + (n : Int) ≤ (s.size : Int) := by omega
   cases hb : ((s[1].toNat : Int) == 48)
   · rw [if_neg (by rw [hz h2, hb]; simp; omega)]
     clear hz
     go_enter Tryz.func201, Tryz.ntmps201
     go_wp2_with (first
      | (go_at_call 234; with_reducible refine (HS.out _).mono ?_; rintro e w1 ⟨rfl, rfl⟩)
      | (go_at_call 235; with_reducible refine (HG.out _).mono ?_; rintro e w1 ⟨rfl, rfl⟩)
      | (go_at_call 240; with_reducible refine (HD.out _).mono ?_; rintro e w1 ⟨rfl, rfl⟩)
      | (go_at_call 242; with_reducible refine (HDS.out _).mono ?_; rintro e w1 ⟨rfl, rfl⟩)
      | (go_at_call 243; with_reducible refine (HNU.out _).mono ?_; rintro e w1 ⟨rfl, rfl⟩))
     all_goals
      have hB : Below w.heap.size w _ := below_alloc w (.cells #[.int .i64 0, .string ⟨#[]⟩, .int .i64 0, .int .i64 0] 159)
      have k0 := hb_new w (.cells #[.int .i64 0, .string ⟨#[]⟩, .int .i64 0, .int .i64 0] 159)
      have r0 := hb_at k0 0 rfl
      have r1 := hb_at k0 1 rfl
      have r2 := hb_at k0 2 rfl
      have r3 := hb_at k0 3 rfl
      exact bodyPost_ret (v := .tuple #[Tk.v ⟨4, ⟨#[]⟩, -(V : Nat)⟩ 0, .int .i64 ((1 + n : Nat))]) Q38 rfl ⟨rfl, by first | exact hB | exact below_alloc w _ | exact (((hB.setCell (by simp) _).setCell (by simp) _).setCell (by simp) _).setCell (by simp) _⟩
   · rw [if_pos (.inr (.inr (by rw [hz h2, hb])))]
     clear hz
     by_cases h1n : 1 < n
     · have d1 : decide ((1 : Int) < (n : Int)) = true := by simp; omega
       go_enter Tryz.func201, Tryz.ntmps201
       go_wp2_with (first
        | (go_at_call 234; with_reducible refine (HS.out _).mono ?_; rintro e w1 ⟨rfl, rfl⟩)
        | (go_at_call 235; with_reducible refine (HG.out _).mono ?_; rintro e w1 ⟨rfl, rfl⟩)
        | (go_at_call 240; with_reducible refine (HD.out _).mono ?_; rintro e w1 ⟨rfl, rfl⟩)
        | (go_at_call 242; with_reducible refine (HDS.out _).mono ?_; rintro e w1 ⟨rfl, rfl⟩))
       all_goals
        have hB : Below w.heap.size w _ := below_alloc w (.cells #[.int .i64 0, .string ⟨#[]⟩, .int .i64 0, .int .i64 0] 159)
        have k0 := hb_new w (.cells #[.int .i64 0, .string ⟨#[]⟩, .int .i64 0, .int .i64 0] 159)
        have r0 := hb_at k0 0 rfl
        have r1 := hb_at k0 1 rfl
        have r2 := hb_at k0 2 rfl
        have r3 := hb_at k0 3 rfl
        exact bodyPost_ret (v := .tuple #[tk0.v 0, .int .i64 0]) Q38 rfl ⟨rfl, by first | exact hB | exact below_alloc w _ | exact (((hB.setCell (by simp) _).setCell (by simp) _).setCell (by simp) _).setCell (by simp) _⟩
     · have d1 : decide ((1 : Int) < (n : Int)) = false := by simp; omega
       go_enter Tryz.func201, Tryz.ntmps201
       go_wp2_with (first
        | (go_at_call 234; with_reducible refine (HS.out _).mono ?_; rintro e w1 ⟨rfl, rfl⟩)
        | (go_at_call 235; with_reducible refine (HG.out _).mono ?_; rintro e w1 ⟨rfl, rfl⟩)
        | (go_at_call 240; with_reducible refine (HD.out _).mono ?_; rintro e w1 ⟨rfl, rfl⟩)
        | (go_at_call 242; with_reducible refine (HDS.out _).mono ?_; rintro e w1 ⟨rfl, rfl⟩))
       all_goals
        have hB : Below w.heap.size w _ := below_alloc w (.cells #[.int .i64 0, .string ⟨#[]⟩, .int .i64 0, .int .i64 0] 159)
        have k0 := hb_new w (.cells #[.int .i64 0, .string ⟨#[]⟩, .int .i64 0, .int .i64 0] 159)
        have r0 := hb_at k0 0 rfl
        have r1 := hb_at k0 1 rfl
        have r2 := hb_at k0 2 rfl
        have r3 := hb_at k0 3 rfl
        exact bodyPost_ret (v := .tuple #[tk0.v 0, .int .i64 0]) Q38 rfl ⟨rfl, by first | exact hB | exact below_alloc w _ | exact (((hB.setCell (by simp) _).setCell (by simp) _).setCell (by simp) _).setCell (by simp) _⟩
 · have hn0 : n = 0 := by omega
   have h1i : ¬ (1 : Int) < (s.size : Int) := by omega
   have hss : s.size = 1 := by omega
   rw [if_pos (.inl hn0)]
   subst hn0
   clear hall hz
   go_enter Tryz.func201, Tryz.ntmps201
   go_wp2_with (first
    | (go_at_call 234; with_reducible refine (HS.out _).mono ?_; rintro e w1 ⟨rfl, rfl⟩)
    | (go_at_call 235; with_reducible refine (HG.out _).mono ?_; rintro e w1 ⟨rfl, rfl⟩)
    | (go_at_call 240; with_reducible refine (HD.out _).mono ?_; rintro e w1 ⟨rfl, rfl⟩)
    | (go_at_call 242; with_reducible refine (HDS.out _).mono ?_; rintro e w1 ⟨rfl, rfl⟩))
   all_goals
    have hB : Below w.heap.size w _ := below_alloc w (.cells #[.int .i64 0, .string ⟨#[]⟩, .int .i64 0, .int .i64 0] 159)
    have k0 := hb_new w (.cells #[.int .i64 0, .string ⟨#[]⟩, .int .i64 0, .int .i64 0] 159)
    have r0 := hb_at k0 0 rfl
    have r1 := hb_at k0 1 rfl
    have r2 := hb_at k0 2 rfl
    have r3 := hb_at k0 3 rfl
    exact bodyPost_ret (v := .tuple #[tk0.v 0, .int .i64 0]) Q38 rfl ⟨rfl, by first | exact hB | exact below_alloc w _ | exact (((hB.setCell (by simp) _).setCell (by simp) _).setCell (by simp) _).setCell (by simp) _⟩
end Go.Proofs.YtmkjalnlldpdcaaGreatDoor
