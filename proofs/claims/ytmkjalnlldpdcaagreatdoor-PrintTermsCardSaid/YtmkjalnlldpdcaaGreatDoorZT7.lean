/- Texts in a row: Lj Lk Ll Lm. -/
import Derived.Test.YtmkjalnlldpdcaaGreatDoorZT6
set_option maxHeartbeats 16000000
set_option maxRecDepth 100000
namespace Go.Proofs.YtmkjalnlldpdcaaGreatDoor
open Go.RowKit
set_option linter.unusedSimpArgs false
set_option linter.unusedVariables false
theorem info47 : ∃ j, Tryz.prog.info? 74 = some j ∧ j.size ≠ 0 := by
 obtain ⟨j, hj, hjs⟩ := Option.map_eq_some_iff.1 Tryz.Builder_Extra_169.sizeBuilder
 exact ⟨j, hj, by rw [hjs]; decide⟩
theorem check_used (b : Nat) (w : World) (h0 : w.cell? ⟨b, 0, none⟩ = some (.pointer (some ⟨b, 0, none⟩))) :
 Calls Tryz.prog 202 #[.pointer (some ⟨b, 0, none⟩)] w fun e w' => e = .returned (.tuple #[]) ∧ w = w' := by
 obtain ⟨j, hj, hjs⟩ := info47
 go_enter Tryz.func202, Tryz.ntmps202
 go_wp2
 rw [Lib.run_neq_ptr_same w _ Tryz.underlying71 hj]
 go_wp2
 go_end0
 exact ⟨rfl, rfl⟩
theorem check_fresh (b : Nat) (w : World) (h0 : w.cell? ⟨b, 0, none⟩ = some (.pointer none)) (hsh : w.shape? b = some (74, 2)) (hfz : w.frozen? ⟨b, 0, none⟩ = false) :
 Calls Tryz.prog 202 #[.pointer (some ⟨b, 0, none⟩)] w fun e w' => e = .returned (.tuple #[]) ∧ w' = w.setCell ⟨b, 0, none⟩ (.pointer (some ⟨b, 0, none⟩)) := by
 obtain ⟨j, hj, hjs⟩ := info47
 go_enter Tryz.func202, Tryz.ntmps202
 go_wp2
 rw [Lib.run_to_unsafe w ⟨b, 0, none⟩ Tryz.underlying71 Tryz.underlying216 hj hjs hsh (Nat.zero_lt_succ 1)]
 simp only [Result.andThen]
 rw [Oper.upon_value]
 go_wp2
 rw [run_callFunc_extern Tryz.func244 Q70 Q70 Q70 (e := Extern.AbiNoEscape.same) Q70, Lib.run_noEscape]
 simp only [Result.andThen]
 rw [Oper.upon_value]
 go_wp2
 rw [Lib.run_from_unsafe w ⟨b, 0, none⟩ Tryz.underlying216 Tryz.underlying71 hj hsh Tryz.Builder_Extra_169.liesBuilder]
 simp only [Result.andThen]
 rw [Oper.upon_value]
 go_wp2
 go_end0
 exact ⟨rfl, rfl⟩
theorem check_any (B b : Nat) (l : List UInt8) (w : World) (h : Lib.IsBuilder 74 5 B b (Lib.byteCells l) w) :
 Calls Tryz.prog 202 #[.pointer (some ⟨b, 0, none⟩)] w fun e w' => e = .returned (.tuple #[]) ∧ Lib.BuilderAt 74 5 B b (.pointer (some ⟨b, 0, none⟩)) (Lib.byteCells l) w' ∧ Below B w w' := by
 rcases h with h | h
 · refine (check_fresh b w h.cell0 h.shape h.frozen0).mono ?_
   rintro e w' ⟨rfl, rfl⟩
   exact ⟨rfl, h.used _, (Below.refl B w).setCell (p := ⟨b, 0, none⟩) h.1 _⟩
 · refine (check_used b w h.cell0).mono ?_
   rintro e w' ⟨rfl, rfl⟩
   exact ⟨rfl, h, Below.refl B _⟩
def WroteB (B b : Nat) (l : List UInt8) (c : UInt8) (w : World) (e : Ending) (w' : World) : Prop :=
 e = .returned .nilIface ∧ Lib.IsBuilder 74 5 B b (Lib.byteCells (l ++ [c])) w' ∧ Below B w w'
theorem writeByte_any (B b : Nat) (l : List UInt8) (c : UInt8) (w : World) (h : Lib.IsBuilder 74 5 B b (Lib.byteCells l) w) (hl : l.length ≤ 4194304) (hBw : B ≤ w.heap.size) :
 Calls Tryz.prog 254 #[.pointer (some ⟨b, 0, none⟩), .int .u8 (c.toNat : Nat)] w (WroteB B b l c w) := by
 have hlen : (Lib.byteCells l).length ≤ 4194304 := by rw [Lib.byteCells_length]; exact hl
 obtain ⟨i0, hi, hz0, hz1, hz2⟩ := info_parts Tryz.Builder_Extra_169.infoByte
 have HK := Hd (fun W hW => check_any B b l W hW)
 have HH := Hd h
 clear h
 go_enter Tryz.func254, Tryz.ntmps254
 go_wp2_with (go_at_call 202; refine (HK.out _ HH.out).mono ?_)
 rintro e w1 ⟨rfl, h1, hb1⟩
 obtain ⟨hB, v, hbk, hown, hne⟩ := h1
 have hlt : b < w1.heap.size := by
  rcases Nat.lt_or_ge b w1.heap.size with h' | h'
  · exact h'
  · rw [Array.getElem?_eq_none h'] at hbk; cases hbk
 have c0 : w1.cell? ⟨b, 0, none⟩ = some (.pointer (some ⟨b, 0, none⟩)) := by rw [Lib.cell_of_heap hbk]; rfl
 have c1 : w1.cell? ⟨b, 1, none⟩ = some v := by rw [Lib.cell_of_heap hbk]; rfl
 go_wp2_with (at_builtin; refine wpList_append_own _ rfl _ _ 72 rfl B 5 i0 (.int .u8 0) 1 1 Tryz.underlying72 hi hz0 hz1 hz2 rfl (by decide) _ _ _ rfl (hown.alloc _) ⟨w1.heap.size, 0, none⟩ 1 1 [.int .u8 (c.toNat : Nat)] rfl rfl ?c1 ?c2 ?c3 ?c4 ?c5 ?_)
 case c1 =>
  intro j u hj
  cases j with
  | zero => simp at hj; subst hj; simp [Addr.add]
  | succ j => simp at hj
 case c2 => intro u hu; simp at hu; subst hu; rfl
 case c3 => unfold maxLen; omega
 case c4 => omega
 case c5 => have := hb1.size; simp; omega
 intro v' w2 hown' hgrow _
 have hs1 := hb1.size
 have hb2 : w2.heap[b]? = some (.cells #[.pointer (some ⟨b, 0, none⟩), v] 74 (0, 0)) := by
  rw [hgrow.block b Q69 (fun e => hne e.symm), Lib.alloc_old w1 _ b hlt]
  exact hbk
 have d0 : w2.cell? ⟨b, 0, none⟩ = some (.pointer (some ⟨b, 0, none⟩)) := by rw [Lib.cell_of_heap hb2]; rfl
 have d1 : w2.cell? ⟨b, 1, none⟩ = some v := by rw [Lib.cell_of_heap hb2]; rfl
 have f1 : w2.frozen? ⟨b, 1, none⟩ = false := Lib.frozen_of_heap hb2 1
 obtain ⟨g, cap, rfl⟩ : ∃ g cap, v' = .slice (some ⟨g, 0, none⟩) ((Lib.byteCells l).length + 1) cap := by
  rcases hown'.2 with ⟨_, h0⟩ | ⟨g, cap, cur, hv, _⟩
  · omega
  · exact ⟨g, cap, hv⟩
 go_wp2
 go_ret
 refine ⟨rfl, .inr ?_, ?_⟩
 · have hbc : Lib.byteCells (l ++ [c]) = Lib.byteCells l ++ [.int .u8 (c.toNat : Nat)] := by simp [Lib.byteCells]
   rw [hbc]
   exact Lib.BuilderAt.put (T := 74) (e := 5) hB hb2 (bs' := Lib.byteCells l ++ [.int .u8 (c.toNat : Nat)]) (by simpa using hown') (by decide)
 · exact ((hb1.alloc (by omega) _).grown hgrow Q69 (fun k hk => (hown.lt k hk).1)).setCell (p := ⟨b, 1, none⟩) hB _
def EscW (w : World) : Prop := ∃ t, w.heap[0]? = some (.cells #[.int .u8 92, .int .u8 92, .int .u8 34, .int .u8 34, .int .u8 110, .int .u8 10, .int .u8 116, .int .u8 9] t (0, 0))
theorem EscW.pos {w : World} (h : EscW w) : 0 < w.heap.size := by
 obtain ⟨t, h⟩ := h
 exact (Array.getElem?_eq_some_iff.1 h).1
theorem EscW.below {B : Nat} {w w' : World} (h : EscW w) (hb : Below B w w') (hB : 0 < B) : EscW w' := by
 obtain ⟨t, h⟩ := h
 exact ⟨t, hb_below h hb hB⟩
theorem EscW.alloc {w : World} (h : EscW w) (o : Obj) : EscW (w.alloc o) := by
 obtain ⟨t, h⟩ := h
 exact ⟨t, hb_alloc h o⟩
def escV (n : Nat) : Nat × Bool := if n = 92 then (92, true) else if n = 34 then (34, true) else if n = 110 then (10, true) else if n = 116 then (9, true) else (0, false)
theorem esc_i0 (W : World) : (Instr.index 230 (.agg #[.int .u8 92, .int .u8 92, .int .u8 34, .int .u8 34, .int .u8 110, .int .u8 10, .int .u8 116, .int .u8 9]) (.int .i64 0)).run Tryz.prog W = .ok (.agg #[.int .u8 92, .int .u8 92]) W := by
 have u59 := run_underlying Tryz.underlying230
 simp [Instr.index, u59, go_sem]
theorem esc_i1 (W : World) : (Instr.index 230 (.agg #[.int .u8 92, .int .u8 92, .int .u8 34, .int .u8 34, .int .u8 110, .int .u8 10, .int .u8 116, .int .u8 9]) (.int .i64 1)).run Tryz.prog W = .ok (.agg #[.int .u8 34, .int .u8 34]) W := by
 have u59 := run_underlying Tryz.underlying230
 simp [Instr.index, u59, go_sem]
theorem esc_i2 (W : World) : (Instr.index 230 (.agg #[.int .u8 92, .int .u8 92, .int .u8 34, .int .u8 34, .int .u8 110, .int .u8 10, .int .u8 116, .int .u8 9]) (.int .i64 2)).run Tryz.prog W = .ok (.agg #[.int .u8 110, .int .u8 10]) W := by
 have u59 := run_underlying Tryz.underlying230
 simp [Instr.index, u59, go_sem]
theorem esc_i3 (W : World) : (Instr.index 230 (.agg #[.int .u8 92, .int .u8 92, .int .u8 34, .int .u8 34, .int .u8 110, .int .u8 10, .int .u8 116, .int .u8 9]) (.int .i64 3)).run Tryz.prog W = .ok (.agg #[.int .u8 116, .int .u8 9]) W := by
 have u59 := run_underlying Tryz.underlying230
 simp [Instr.index, u59, go_sem]
theorem unescape_none (w : World) (h : EscW w) :
 Calls Tryz.prog 253 #[.string ⟨#[]⟩] w fun e w' => e = .returned (.tuple #[.int .u8 0, .bool false]) ∧ Below w.heap.size w w' := by
 obtain ⟨tt, h⟩ := h
 have c0 := hb_at h 0 rfl
 have c1 := hb_at h 1 rfl
 have c2 := hb_at h 2 rfl
 have c3 := hb_at h 3 rfl
 have c4 := hb_at h 4 rfl
 have c5 := hb_at h 5 rfl
 have c6 := hb_at h 6 rfl
 have c7 := hb_at h 7 rfl
 have i0 := fun W => esc_i0 W
 have i1 := fun W => esc_i1 W
 have i2 := fun W => esc_i2 W
 have i3 := fun W => esc_i3 W
 clear h
 go_enter Tryz.func253, Tryz.ntmps253
 go_wp2
 clear c0 c1 c2 c3 c4 c5 c6 c7
 go_loopw [7] (fun i wr => ∃ k : Nat, i = .int .i64 k ∧ k ≤ 4 ∧ Below w.heap.size w wr) (fun i _ => 4 - (intOf i).toNat)
 case atStart => exact ⟨0, rfl, by omega, Below.refl _ _⟩
 case round =>
  obtain ⟨k, rfl, hk, hb⟩ := hrel
  have hbs := hb.size
  have HB := Hd hb
  clear hb
  have hc : k = 0 ∨ k = 1 ∨ k = 2 ∨ k = 3 ∨ k = 4 := by omega
  rcases hc with rfl | rfl | rfl | rfl | rfl
  · go_wp2
    go_region
    go_wp2
    exact ⟨⟨1, rfl, by omega, (HB.out.alloc hbs _).drew⟩, by simp [intOf]⟩
  · go_wp2
    go_region
    go_wp2
    exact ⟨⟨2, rfl, by omega, (HB.out.alloc hbs _).drew⟩, by simp [intOf]⟩
  · go_wp2
    go_region
    go_wp2
    exact ⟨⟨3, rfl, by omega, (HB.out.alloc hbs _).drew⟩, by simp [intOf]⟩
  · go_wp2
    go_region
    go_wp2
    exact ⟨⟨4, rfl, by omega, (HB.out.alloc hbs _).drew⟩, by simp [intOf]⟩
  · go_wp2
    exact bodyPost_ret (v := .tuple #[.int .u8 0, .bool false]) Q53 rfl ⟨rfl, HB.out⟩
theorem ne_nil {s : ByteArray} (h : 0 < s.size) : (s.toList == []) = false := by
 rw [beq_eq_false_iff_ne, ByteArray.toList_eq]
 intro e
 have := congrArg List.length e
 rw [len_list, List.length_nil] at this
 omega
theorem unescape_some (s : ByteArray) (hs : 0 < s.size) (w : World) (h : EscW w) :
 Calls Tryz.prog 253 #[.string s] w fun e w' => e = .returned (.tuple #[.int .u8 ((escV s[0].toNat).1 : Nat), .bool (escV s[0].toNat).2]) ∧ Below w.heap.size w w' := by
 obtain ⟨tt, h⟩ := h
 have c0 := hb_at h 0 rfl
 have c1 := hb_at h 1 rfl
 have c2 := hb_at h 2 rfl
 have c3 := hb_at h 3 rfl
 have c4 := hb_at h 4 rfl
 have c5 := hb_at h 5 rfl
 have c6 := hb_at h 6 rfl
 have c7 := hb_at h 7 rfl
 have i0 := fun W => esc_i0 W
 have i1 := fun W => esc_i1 W
 have i2 := fun W => esc_i2 W
 have i3 := fun W => esc_i3 W
 clear h
 have hne := ne_nil hs
 have hsi : (0 : Int) < (s.size : Int) := by omega
 go_enter Tryz.func253, Tryz.ntmps253
 go_wp2
 clear c0 c1 c2 c3 c4 c5 c6 c7
 go_loopw [7] (fun i wr => ∃ k : Nat, i = .int .i64 k ∧ k ≤ 4 ∧ Below w.heap.size w wr ∧ (1 ≤ k → s[0].toNat ≠ 92) ∧ (2 ≤ k → s[0].toNat ≠ 34) ∧ (3 ≤ k → s[0].toNat ≠ 110) ∧ (4 ≤ k → s[0].toNat ≠ 116)) (fun i _ => 4 - (intOf i).toNat)
 case atStart => exact ⟨0, rfl, by omega, Below.refl _ _, by omega, by omega, by omega, by omega⟩
 case round =>
  obtain ⟨k, rfl, hk, hb, n0, n1, n2, n3⟩ := hrel
  have hbs := hb.size
  have HB := Hd hb
  have H0 := Hd n0
  have H1 := Hd n1
  have H2 := Hd n2
  have H3 := Hd n3
  clear hb n0 n1 n2 n3
  have hc : k = 0 ∨ k = 1 ∨ k = 2 ∨ k = 3 ∨ k = 4 := by omega
  rcases hc with rfl | rfl | rfl | rfl | rfl
  · by_cases hx : s[0].toNat = 92
    · have hd : ((s[0].toNat : Int) == 92) = true := by rw [hx]; rfl
      have he : escV s[0].toNat = (92, true) := by unfold escV;  rw [if_pos hx]
      have HX := Hd he
      clear he hx
      go_wp2
      go_region
      go_wp2
      exact bodyPost_ret (v := .tuple #[.int .u8 92, .bool true]) Q53 rfl ⟨by rw [HX.out]; rfl, (HB.out.alloc hbs _).drew⟩
    · have hd : ((s[0].toNat : Int) == 92) = false := by rw [beq_eq_false_iff_ne]; omega
      have HX := Hd hx
      clear hx
      go_wp2
      go_region
      go_wp2
      exact ⟨⟨1, rfl, by omega, (HB.out.alloc hbs _).drew, fun _ => HX.out, by omega, by omega, by omega⟩, by simp [intOf]⟩
  · by_cases hx : s[0].toNat = 34
    · have hd : ((s[0].toNat : Int) == 34) = true := by rw [hx]; rfl
      have he : escV s[0].toNat = (34, true) := by unfold escV; rw [if_neg (H0.out (by omega))]; rw [if_pos hx]
      have HX := Hd he
      clear he hx
      go_wp2
      go_region
      go_wp2
      exact bodyPost_ret (v := .tuple #[.int .u8 34, .bool true]) Q53 rfl ⟨by rw [HX.out]; rfl, (HB.out.alloc hbs _).drew⟩
    · have hd : ((s[0].toNat : Int) == 34) = false := by rw [beq_eq_false_iff_ne]; omega
      have HX := Hd hx
      clear hx
      go_wp2
      go_region
      go_wp2
      exact ⟨⟨2, rfl, by omega, (HB.out.alloc hbs _).drew, fun _ => H0.out (by omega), fun _ => HX.out, by omega, by omega⟩, by simp [intOf]⟩
  · by_cases hx : s[0].toNat = 110
    · have hd : ((s[0].toNat : Int) == 110) = true := by rw [hx]; rfl
      have he : escV s[0].toNat = (10, true) := by unfold escV; rw [if_neg (H0.out (by omega))]; rw [if_neg (H1.out (by omega))]; rw [if_pos hx]
      have HX := Hd he
      clear he hx
      go_wp2
      go_region
      go_wp2
      exact bodyPost_ret (v := .tuple #[.int .u8 10, .bool true]) Q53 rfl ⟨by rw [HX.out]; rfl, (HB.out.alloc hbs _).drew⟩
    · have hd : ((s[0].toNat : Int) == 110) = false := by rw [beq_eq_false_iff_ne]; omega
      have HX := Hd hx
      clear hx
      go_wp2
      go_region
      go_wp2
      exact ⟨⟨3, rfl, by omega, (HB.out.alloc hbs _).drew, fun _ => H0.out (by omega), fun _ => H1.out (by omega), fun _ => HX.out, by omega⟩, by simp [intOf]⟩
  · by_cases hx : s[0].toNat = 116
    · have hd : ((s[0].toNat : Int) == 116) = true := by rw [hx]; rfl
      have he : escV s[0].toNat = (9, true) := by unfold escV; rw [if_neg (H0.out (by omega))]; rw [if_neg (H1.out (by omega))]; rw [if_neg (H2.out (by omega))]; rw [if_pos hx]
      have HX := Hd he
      clear he hx
      go_wp2
      go_region
      go_wp2
      exact bodyPost_ret (v := .tuple #[.int .u8 9, .bool true]) Q53 rfl ⟨by rw [HX.out]; rfl, (HB.out.alloc hbs _).drew⟩
    · have hd : ((s[0].toNat : Int) == 116) = false := by rw [beq_eq_false_iff_ne]; omega
      have HX := Hd hx
      clear hx
      go_wp2
      go_region
      go_wp2
      exact ⟨⟨4, rfl, by omega, (HB.out.alloc hbs _).drew, fun _ => H0.out (by omega), fun _ => H1.out (by omega), fun _ => H2.out (by omega), fun _ => HX.out⟩, by simp [intOf]⟩
  · have he : escV s[0].toNat = (0, false) := by unfold escV; rw [if_neg (H0.out (by omega)), if_neg (H1.out (by omega)), if_neg (H2.out (by omega)), if_neg (H3.out (by omega))]
    have HX := Hd he
    clear he
    go_wp2
    exact bodyPost_ret (v := .tuple #[.int .u8 0, .bool false]) Q53 rfl ⟨by rw [HX.out]; rfl, HB.out⟩
theorem isB_below {B b : Nat} {bs : List Value} {w w' : World} (h : Lib.IsBuilder 74 5 B b bs w) (hb : Below w.heap.size w w') : Lib.IsBuilder 74 5 B b bs w' := by
 have hg : w.grownBy w' none := ⟨hb.os, hb.tape, hb.output, hb.size, fun k hk _ => hb.block k hk⟩
 have one : ∀ p, Lib.BuilderAt 74 5 B b p bs w → Lib.BuilderAt 74 5 B b p bs w' := by
  rintro p ⟨hB, v, hbk, hown, hne⟩
  exact ⟨hB, v, by rw [hb.block b (Array.getElem?_eq_some_iff.1 hbk).1]; exact hbk, hown.kept hg (by cases e : v.ownBlock <;> simp), hne⟩
 exact h.elim (fun x => .inl (one _ x)) (fun x => .inr (one _ x))
def txF (L : List UInt8) : Nat → Nat → List UInt8 → Option (List UInt8 × Nat)
 | 0, _, _ => none
 | f + 1, i, said =>
  if 1000 < said.length then none else
  match L[i]? with
  | none => none
  | some c =>
   if c.toNat = 34 then some (said, i + 1)
   else if c.toNat < 32 ∨ 126 < c.toNat then none
   else if c.toNat = 92 then (match L[i + 1]? with
    | none => none
    | some d => if (escV d.toNat).2 then txF L f (i + 2) (said ++ [UInt8.ofNat (escV d.toNat).1]) else none)
   else txF L f (i + 1) (said ++ [c])
theorem txF_any (L : List UInt8) : ∀ (f g i : Nat) (said : List UInt8), L.length - i < f → L.length - i < g → txF L f i said = txF L g i said := by
 intro f
 induction f with
 | zero => intro g i said h; omega
 | succ f ih =>
  intro g i said h1 h2
  cases g with
  | zero => omega
  | succ g =>
   unfold txF
   split
   · rfl
   · cases hc : L[i]? with
     | none => rfl
     | some c =>
      have hi := (List.getElem?_eq_some_iff.1 hc).1
      simp only []
      rw [ih g (i + 1) (said ++ [c]) (by omega) (by omega)]
      cases hd : L[i + 1]? with
      | none => rfl
      | some d =>
       simp only []
       rw [ih g (i + 2) _ (by omega) (by omega)]
def txM (L : List UInt8) (i : Nat) (said : List UInt8) : Option (List UInt8 × Nat) := txF L (L.length + 1) i said
theorem txM_step (L : List UInt8) (i : Nat) (said : List UInt8) : txM L i said =
 if 1000 < said.length then none else
 match L[i]? with
 | none => none
 | some c =>
  if c.toNat = 34 then some (said, i + 1)
  else if c.toNat < 32 ∨ 126 < c.toNat then none
  else if c.toNat = 92 then (match L[i + 1]? with
   | none => none
   | some d => if (escV d.toNat).2 then txM L (i + 2) (said ++ [UInt8.ofNat (escV d.toNat).1]) else none)
  else txM L (i + 1) (said ++ [c]) := by
 unfold txM
 rw [txF]
 split
 · rfl
 · cases hc : L[i]? with
   | none => rfl
   | some c =>
    have hi := (List.getElem?_eq_some_iff.1 hc).1
    simp only []
    rw [txF_any L L.length (L.length + 1) (i + 1) (said ++ [c]) (by omega) (by omega)]
    cases hd : L[i + 1]? with
    | none => rfl
    | some d =>
     simp only []
     rw [txF_any L L.length (L.length + 1) (i + 2) _ (by omega) (by omega)]
def txR : Option (List UInt8 × Nat) → Tk × Nat
 | some (said, n) => (⟨5, ⟨said.toArray⟩, 0⟩, n)
 | none => (tk0, 0)
def textT (s : ByteArray) : Tk × Nat := txR (txM s.data.toList 1 [])
theorem escV_lt (n : Nat) : (escV n).1 < 256 := by
 unfold escV
 split
 · decide
 · split
   · decide
   · split
     · decide
     · split <;> decide
def escA (L : List UInt8) (i : Nat) : Nat × Bool := match L[i]? with
 | none => (0, false)
 | some d => escV d.toNat
theorem escA_lt (L : List UInt8) (i : Nat) : (escA L i).1 < 256 := by
 unfold escA
 split
 · decide
 · exact escV_lt _
theorem unescape_at (s : ByteArray) (k : Nat) (hk : k ≤ s.size) (w : World) (h : EscW w) :
 Calls Tryz.prog 253 #[.string (s.extract k s.size)] w fun e w' => e = .returned (.tuple #[.int .u8 ((escA s.data.toList k).1 : Nat), .bool (escA s.data.toList k).2]) ∧ Below w.heap.size w w' := by
 by_cases hlt : k < s.size
 · have hz : 0 < (s.extract k s.size).size := by rw [sfx_size]; omega
   have h1 := at_list (s.extract k s.size) 0 hz
   rw [sfx_list, List.getElem?_drop, Nat.add_zero] at h1
   have h2 : escA s.data.toList k = escV (s.extract k s.size)[0].toNat := by
    unfold escA
    rw [h1]
   rw [h2]
   exact unescape_some _ hz w h
 · obtain rfl : k = s.size := by omega
   have h2 : escA s.data.toList s.size = (0, false) := by
    unfold escA
    rw [List.getElem?_eq_none (by rw [len_list]; exact Nat.le_refl _)]
   have h3 : s.extract s.size s.size = ⟨#[]⟩ := by
    apply ByteArray.ext
    simp
   rw [h2, h3]
   exact unescape_none w h
def TxW (w : World) (said : List UInt8) (wr : World) : Prop :=
 Below w.heap.size w wr ∧ wr.heap[w.heap.size]? = some (.cells #[.int .i64 0, .string ⟨#[]⟩, .int .i64 0, .int .i64 0] 159 (0, 0)) ∧ Lib.IsBuilder 74 5 (w.heap.size + 1) (w.heap.size + 1) (Lib.byteCells said) wr
theorem TxW.below {w wr w1 : World} {said : List UInt8} (h : TxW w said wr) (hb : Below wr.heap.size wr w1) : TxW w said w1 := by
 obtain ⟨h1, h2, h3⟩ := h
 exact ⟨h1.trans (hb.mono h1.size), hb_below h2 hb (Array.getElem?_eq_some_iff.1 h2).1, isB_below h3 hb⟩
theorem TxW.wrote {w wr w1 : World} {said : List UInt8} {c : UInt8} {e : Ending} (h : TxW w said wr) (hb : WroteB (w.heap.size + 1) (w.heap.size + 1) said c wr e w1) : TxW w (said ++ [c]) w1 := by
 obtain ⟨h1, h2, h3⟩ := h
 obtain ⟨_, k2, k3⟩ := hb
 exact ⟨h1.trans (k3.mono (by omega)), hb_below h2 k3 (by omega), k2⟩
theorem TxW.esc {w wr : World} {said : List UInt8} (h : TxW w said wr) (hw : EscW w) (h0 : 0 < w.heap.size) : EscW wr := by
 exact hw.below h.1 h0
theorem esc_eq (L : List UInt8) (k : Nat) (said : List UInt8) : (match L[k + 1]? with
        | none => none
        | some d => if (escV d.toNat).2 then txM L (k + 2) (said ++ [UInt8.ofNat (escV d.toNat).1]) else none) = if (escA L (k + 1)).2 then txM L (k + 2) (said ++ [UInt8.ofNat (escA L (k + 1)).1]) else none := by
 unfold escA
 cases L[k + 1]? <;> rfl
theorem write_nat (B b n : Nat) (hn : n < 256) (l : List UInt8) (w : World) (h : Lib.IsBuilder 74 5 B b (Lib.byteCells l) w) (hl : l.length ≤ 4194304) (hBw : B ≤ w.heap.size) :
 Calls Tryz.prog 254 #[.pointer (some ⟨b, 0, none⟩), .int .u8 (n : Nat)] w (WroteB B b l (UInt8.ofNat n) w) := by
 have h1 : (UInt8.ofNat n).toNat = n := by rw [UInt8.toNat_ofNat']; exact Nat.mod_eq_of_lt hn
 have := writeByte_any B b l (UInt8.ofNat n) w h hl hBw
 rw [h1] at this
 exact this
theorem TxW.size {w wr : World} {said : List UInt8} (h : TxW w said wr) : w.heap.size + 1 ≤ wr.heap.size := (Array.getElem?_eq_some_iff.1 h.2.1).1
theorem firstText_any (s : ByteArray) (hm : s.size ≤ 4194304) (w : World) (hw : EscW w) :
 Calls Tryz.prog 223 #[.string s] w fun e w' => e = .returned (.tuple #[(textT s).1.v 0, .int .i64 (textT s).2]) ∧ Below w.heap.size w w' := by
 have hpos : 0 < w.heap.size := hw.pos
 have HE := Hd hw
 clear hw
 obtain ⟨R, hR⟩ : ∃ R, txM s.data.toList 1 [] = R := ⟨_, rfl⟩
 have he : textT s = txR R := by unfold textT; rw [hR]
 rw [he]
 clear he
 go_enter Tryz.func223, Tryz.ntmps223
 go_wp2
 go_loopw [5] (fun i wr => ∃ (k : Nat) (said : List UInt8), i = .int .i64 k ∧ txM s.data.toList k said = R ∧ TxW w said wr) (fun i _ => s.size - (intOf i).toNat)
 case atStart =>
  refine ⟨1, [], rfl, hR, below2X w _ _, hb_alloc (hb_new w _) _, ?_⟩
  have h := Lib.fresh_isBuilder 74 5 (w.alloc (.cells #[.int .i64 0, .string ⟨#[]⟩, .int .i64 0, .int .i64 0] 159))
  rw [World.size_alloc] at h
  exact h
 case round =>
  obtain ⟨k, said, rfl, hT, hW⟩ := hrel
  have HW := Hd hW
  have hsz := hW.size
  have HS := Hd (txM_step s.data.toList k said)
  rw [hT] at HS
  clear hW hT
  have HL := Hd (fun W hW => (Tryz.Builder_Len (w.heap.size + 1) (w.heap.size + 1) (Lib.byteCells said) W hW))
  rw [Lib.byteCells_length] at HL
  have hB := HW.out.1
  have k0 := HW.out.2.1
  have hb3 := Hd HW.out.2.2
  have r0 := hb_at k0 0 rfl
  have r1 := hb_at k0 1 rfl
  have r2 := hb_at k0 2 rfl
  have r3 := hb_at k0 3 rfl
  have f0 := hb_free k0 0
  have f1 := hb_free k0 1
  have f2 := hb_free k0 2
  have f3 := hb_free k0 3
  have HB := Hd hB
  clear k0 hB
  by_cases hk : k < s.size
  · have hki : (k : Int) < (s.size : Int) := by omega
    have HC := Hd (at_list s k hk)
    by_cases hl : 1000 < said.length
    · have hli : decide ((said.length : Int) ≤ 1000) = false := by simp; omega
      have hRn : R = none := by rw [HS.out, if_pos hl]
      subst hRn
      go_wp2_with (go_at_call 252; refine (HL.out _ hb3.out).mono ?_; rintro e w1 ⟨rfl, rfl⟩)
      exact bodyPost_ret (v := .tuple #[tk0.v 0, .int .i64 0]) Q40 rfl ⟨rfl, (((HB.out.setCell (by simp) _).setCell (by simp) _).setCell (by simp) _).setCell (by simp) _⟩
    · have hli : decide ((said.length : Int) ≤ 1000) = true := by simp; omega
      have HQ : R = (if s[k].toNat = 34 then some (said, k + 1) else if s[k].toNat < 32 ∨ 126 < s[k].toNat then none else if s[k].toNat = 92 then (if (escA s.data.toList (k + 1)).2 then txM s.data.toList (k + 2) (said ++ [UInt8.ofNat (escA s.data.toList (k + 1)).1]) else none) else txM s.data.toList (k + 1) (said ++ [s[k]])) := by
       rw [HS.out, if_neg hl, HC.out]
       simp only []
       rw [esc_eq]
      clear HS
      have hsl : said.length ≤ 4194304 := by omega
      by_cases h34 : s[k].toNat = 34
      · have e34 : ((s[k].toNat : Int) == 34) = true := by rw [h34]; rfl
        rw [if_pos h34] at HQ
        subst HQ
        go_wp2_with (first
         | (go_at_call 252; refine (HL.out _ hb3.out).mono ?_; rintro e w1 ⟨rfl, rfl⟩)
         | (go_at_call 48; refine (Tryz.Builder_String_any (w.heap.size + 1) (w.heap.size + 1) said _ hb3.out hsz).mono ?_; rintro e w2 ⟨rfl, hb2⟩; have hk2 := hb_below HW.out.2.1 hb2 (by omega); have r0 := hb_at hk2 0 rfl; have r1 := hb_at hk2 1 rfl; have r2 := hb_at hk2 2 rfl; have r3 := hb_at hk2 3 rfl; have f0 := hb_free hk2 0; have f1 := hb_free hk2 1; have f2 := hb_free hk2 2; have f3 := hb_free hk2 3))
        have hB2 : Below w.heap.size w w2 := HB.out.trans (hb2.mono (by omega))
        exact bodyPost_ret (v := .tuple #[Tk.v ⟨5, ⟨said.toArray⟩, 0⟩ 0, .int .i64 ((k : Int) + 1)]) (by simp [results, Tryz.results223, go_sem, r0, r1, r2, r3, Tk.v]) rfl ⟨rfl, (((hB2.setCell (by simp) _).setCell (by simp) _).setCell (by simp) _).setCell (by simp) _⟩
      · have e34 : ((s[k].toNat : Int) == 34) = false := by rw [beq_eq_false_iff_ne]; omega
        rw [if_neg h34] at HQ
        by_cases h32 : s[k].toNat < 32
        · have d32 : decide ((s[k].toNat : Int) < 32) = true := by simp; omega
          rw [if_pos (.inl h32)] at HQ
          subst HQ
          go_wp2_with (go_at_call 252; refine (HL.out _ hb3.out).mono ?_; rintro e w1 ⟨rfl, rfl⟩)
          exact bodyPost_ret (v := .tuple #[tk0.v 0, .int .i64 0]) Q40 rfl ⟨rfl, (((HB.out.setCell (by simp) _).setCell (by simp) _).setCell (by simp) _).setCell (by simp) _⟩
        · have d32 : decide ((s[k].toNat : Int) < 32) = false := by simp; omega
          by_cases h126 : 126 < s[k].toNat
          · have d126 : decide (126 < (s[k].toNat : Int)) = true := by simp; omega
            rw [if_pos (.inr h126)] at HQ
            subst HQ
            go_wp2_with (go_at_call 252; refine (HL.out _ hb3.out).mono ?_; rintro e w1 ⟨rfl, rfl⟩)
            exact bodyPost_ret (v := .tuple #[tk0.v 0, .int .i64 0]) Q40 rfl ⟨rfl, (((HB.out.setCell (by simp) _).setCell (by simp) _).setCell (by simp) _).setCell (by simp) _⟩
          · have d126 : decide (126 < (s[k].toNat : Int)) = false := by simp; omega
            rw [if_neg (by omega)] at HQ
            by_cases h92 : s[k].toNat = 92
            · have e92 : ((s[k].toNat : Int) == 92) = true := by rw [h92]; rfl
              rw [if_pos h92] at HQ
              have HU := Hd (fun W hW => unescape_at s (k + 1) (by omega) W hW)
              have hlt := escA_lt s.data.toList (k + 1)
              generalize escA s.data.toList (k + 1) = U at *
              obtain ⟨u, b⟩ := U
              have HX := Hd HQ
              have hki1 : ((k : Int) + 1) ≤ (s.size : Int) := by omega
              have HK := Hd (fun W hW hs => write_nat (w.heap.size + 1) (w.heap.size + 1) u hlt said W hW hsl hs)
              clear HQ h34 h32 h126 h92
              cases b
              · have hRn : R = none := HX.out
                subst hRn
                go_wp2_with (first
                 | (go_at_call 252; refine (HL.out _ hb3.out).mono ?_; rintro e w1 ⟨rfl, rfl⟩)
                 | (go_at_call 253; refine (HU.out _ (HW.out.esc HE.out hpos)).mono ?_; rintro e w2 ⟨rfl, hb2⟩; have hW2 := HW.out.below hb2; have HW2 := Hd hW2; have hk2 := hW2.2.1; have r0 := hb_at hk2 0 rfl; have r1 := hb_at hk2 1 rfl; have r2 := hb_at hk2 2 rfl; have r3 := hb_at hk2 3 rfl; have f0 := hb_free hk2 0; have f1 := hb_free hk2 1; have f2 := hb_free hk2 2; have f3 := hb_free hk2 3; clear hW2 hk2))
                have hB2 := HW2.out.1
                exact bodyPost_ret (v := .tuple #[tk0.v 0, .int .i64 0]) Q40 rfl ⟨rfl, (((hB2.setCell (by simp) _).setCell (by simp) _).setCell (by simp) _).setCell (by simp) _⟩
              · go_wp2_with (first
                 | (go_at_call 252; refine (HL.out _ hb3.out).mono ?_; rintro e w1 ⟨rfl, rfl⟩)
                 | (go_at_call 253; refine (HU.out _ (HW.out.esc HE.out hpos)).mono ?_; rintro e w2 ⟨rfl, hb2⟩; have HW2 := Hd (HW.out.below hb2))
                 | (go_at_call 254; refine (HK.out _ HW2.out.2.2 HW2.out.size).mono ?_; intro e w3 hwr; have HW3 := Hd (HW2.out.wrote hwr); obtain ⟨rfl, _, _⟩ := hwr))
                have hx : txM s.data.toList (k + 2) (said ++ [UInt8.ofNat u]) = R := HX.out.symm
                exact ⟨⟨k + 2, said ++ [UInt8.ofNat u], by simp; omega, hx, HW3.out⟩, by simp [intOf]; omega⟩
            · have e92 : ((s[k].toNat : Int) == 92) = false := by rw [beq_eq_false_iff_ne]; omega
              rw [if_neg h92] at HQ
              have HX := Hd HQ
              have HK := Hd (fun W hW hs => writeByte_any (w.heap.size + 1) (w.heap.size + 1) said s[k] W hW hsl hs)
              clear HQ h34 h32 h126 h92
              go_wp2_with (first
               | (go_at_call 252; refine (HL.out _ hb3.out).mono ?_; rintro e w1 ⟨rfl, rfl⟩)
               | (go_at_call 254; refine (HK.out _ HW.out.2.2 HW.out.size).mono ?_; intro e w3 hwr; have HW3 := Hd (HW.out.wrote hwr); obtain ⟨rfl, _, _⟩ := hwr))
              have hx : txM s.data.toList (k + 1) (said ++ [s[k]]) = R := HX.out.symm
              exact ⟨⟨k + 1, said ++ [s[k]], by simp, hx, HW3.out⟩, by simp [intOf]; omega⟩
  · have hki : ¬ (k : Int) < (s.size : Int) := by omega
    have hRn : R = none := by
     rw [HS.out]
     split
     · rfl
     · rw [List.getElem?_eq_none Q65]
    subst hRn
    go_wp2
    exact bodyPost_ret (v := .tuple #[tk0.v 0, .int .i64 0]) Q40 rfl ⟨rfl, (((HB.out.setCell (by simp) _).setCell (by simp) _).setCell (by simp) _).setCell (by simp) _⟩
def headS : Option UInt8 → Bool
 | none => false
 | some c => smB c
def varT (s : ByteArray) : Tk × Nat :=
 if cnt vrB (s.data.toList.drop 1) = 0 ∨ 29 < cnt vrB (s.data.toList.drop 1) ∨ headS s.data.toList[1]? = false then (tk0, 0)
 else (⟨3, ⟨((s.data.toList.drop 1).take (cnt vrB (s.data.toList.drop 1))).toArray⟩, 0⟩, 1 + cnt vrB (s.data.toList.drop 1))
theorem trim_mark {s : ByteArray} (h : s.data.toList[0]? = some 39) : Lib.trimPrefix s.data.toList [39] = s.data.toList.drop 1 := by
 unfold Lib.trimPrefix Lib.hasPrefix
 cases e : s.data.toList with
 | nil => rw [e] at h; simp at h
 | cons c l => rw [e] at h; simp at h; subst h; simp
theorem firstVar_any (s : ByteArray) (hm : s.size ≤ 4194304) (h39 : s.data.toList[0]? = some 39) (w : World) :
 Calls Tryz.prog 222 #[.string s] w fun e w' => e = .returned (.tuple #[(varT s).1.v 0, .int .i64 (varT s).2]) ∧ Below w.heap.size w w' := by
 have HT := Hd (fun W => (Tryz.strings_TrimPrefix s ⟨#[39]⟩ W).mono fun e w' (h : _ ∧ _) => (⟨by rw [h.1]; exact congrArg (fun l : List UInt8 => Ending.returned (.string ⟨l.toArray⟩)) (trim_mark h39), h.2.symm⟩ : e = .returned (.string ⟨(s.data.toList.drop 1).toArray⟩) ∧ W = w'))
 have hln : s.data.toList.length = 1 + (s.data.toList.drop 1).length := by
  have := (List.getElem?_eq_some_iff.1 h39).1
  rw [List.length_drop]
  omega
 rw [len_list] at hln
 have hd1 : s.data.toList[1]? = (s.data.toList.drop 1)[0]? := by rw [List.getElem?_drop]
 obtain ⟨D, hD⟩ : ∃ D : ByteArray, D.data.toList = s.data.toList.drop 1 := ⟨⟨(s.data.toList.drop 1).toArray⟩, rfl⟩
 have hDD : (⟨(s.data.toList.drop 1).toArray⟩ : ByteArray) = D := by rw [← hD]
 rw [hDD] at HT
 have hV : varT s = (if cnt vrB D.data.toList = 0 ∨ 29 < cnt vrB D.data.toList ∨ headS D.data.toList[0]? = false then (tk0, 0) else (⟨3, D.extract 0 (cnt vrB D.data.toList), 0⟩, 1 + cnt vrB D.data.toList)) := by
  unfold varT
  rw [hd1, ← hD]
  have h1 : (⟨(D.data.toList.take (cnt vrB D.data.toList)).toArray⟩ : ByteArray) = D.extract 0 (cnt vrB D.data.toList) := by
   apply toList_injX
   rw [take_list, ByteArray.toList_eq]
  rw [h1]
 rw [hV]
 rw [← hD, len_list] at hln
 clear hV hDD hD hd1 h39
 have hDm : D.size ≤ 4194304 := by omega
 have hle := cnt_le vrB D.data.toList
 rw [len_list] at hle
 have HC := Hd (fun W => countVar D hDm W)
 obtain ⟨N, hN⟩ : ∃ N, cnt vrB D.data.toList = N := ⟨_, rfl⟩
 rw [hN] at hle HC ⊢
 clear hN
 have hNi : (N : Int) ≤ (D.size : Int) := by omega
 obtain ⟨E, hE⟩ : ∃ E, D.extract 0 N = E := ⟨_, rfl⟩
 have hEs : E.size = N := by rw [← hE, ByteArray.size_extract]; omega
 have hEL : E.data.toList = D.data.toList.take N := by rw [← hE, ← ByteArray.toList_eq, take_list]
 by_cases h0 : N = 0
 · rw [if_pos (.inl h0)]
   subst h0
   have q0 : (E.toList == ([] : List UInt8)) = true := by rw [ByteArray.toList_eq, hEL]; rfl
   clear hEL
   go_enter Tryz.func222, Tryz.ntmps222
   go_wp2_with (first
    | (go_at_call 250; ((with_reducible refine (HT.out _).mono ?_); rintro e w1 ⟨rfl, rfl⟩))
    | (go_at_call 214; ((with_reducible refine (HC.out _).mono ?_); rintro e w1 ⟨rfl, rfl⟩)))
   have hB := below_alloc w (.cells #[.int .i64 0, .string ⟨#[]⟩, .int .i64 0, .int .i64 0] 159)
   have k0 := hb_new w (.cells #[.int .i64 0, .string ⟨#[]⟩, .int .i64 0, .int .i64 0] 159)
   have r0 := hb_at k0 0 rfl
   have r1 := hb_at k0 1 rfl
   have r2 := hb_at k0 2 rfl
   have r3 := hb_at k0 3 rfl
   exact bodyPost_ret (v := .tuple #[tk0.v 0, .int .i64 0]) Q42 rfl ⟨rfl, by first | exact hB | exact (((hB.setCell (by simp) _).setCell (by simp) _).setCell (by simp) _).setCell (by simp) _⟩
 rw [hE]
 have q0 : (E.toList == ([] : List UInt8)) = false := by
   rw [beq_eq_false_iff_ne]
   intro e
   have e1 := congrArg List.length e
   rw [ByteArray.toList_eq, len_list, hEs] at e1
   exact h0 e1
 by_cases h30 : 29 < N
 · rw [if_pos (.inr (.inl h30))]
   have d30 : decide ((30 : Int) < 1 + (N : Int)) = true := by simp; omega
   clear hEL
   go_enter Tryz.func222, Tryz.ntmps222
   go_wp2_with (first
    | (go_at_call 250; ((with_reducible refine (HT.out _).mono ?_); rintro e w1 ⟨rfl, rfl⟩))
    | (go_at_call 214; ((with_reducible refine (HC.out _).mono ?_); rintro e w1 ⟨rfl, rfl⟩)))
   have hB := below_alloc w (.cells #[.int .i64 0, .string ⟨#[]⟩, .int .i64 0, .int .i64 0] 159)
   have k0 := hb_new w (.cells #[.int .i64 0, .string ⟨#[]⟩, .int .i64 0, .int .i64 0] 159)
   have r0 := hb_at k0 0 rfl
   have r1 := hb_at k0 1 rfl
   have r2 := hb_at k0 2 rfl
   have r3 := hb_at k0 3 rfl
   exact bodyPost_ret (v := .tuple #[tk0.v 0, .int .i64 0]) Q42 rfl ⟨rfl, by first | exact hB | exact (((hB.setCell (by simp) _).setCell (by simp) _).setCell (by simp) _).setCell (by simp) _⟩
 have d30 : decide ((30 : Int) < 1 + (N : Int)) = false := by simp; omega
 have hsz : 0 < E.size := by omega
 have hsi : (0 : Int) < (E.size : Int) := by omega
 have HS := Hd (fun W => isSmall_any E[0] W)
 have hH : D.data.toList[0]? = some E[0] := by
   have h1 := at_list E 0 hsz
   rw [hEL, List.getElem?_take, if_pos (by omega)] at h1
   exact h1
 rw [hH]
 rw [show headS (some E[0]) = smB E[0] from rfl]
 clear hH hEL
 rcases (Bool.eq_false_or_eq_true (smB E[0])).symm with hb | hb
 · rw [if_pos (.inr (.inr hb))]
   rw [hb] at HS
   clear hb
   go_enter Tryz.func222, Tryz.ntmps222
   go_wp2_with (first
    | (go_at_call 250; ((with_reducible refine (HT.out _).mono ?_); rintro e w1 ⟨rfl, rfl⟩))
    | (go_at_call 214; ((with_reducible refine (HC.out _).mono ?_); rintro e w1 ⟨rfl, rfl⟩))
    | (go_at_call 218; ((with_reducible refine (HS.out _).mono ?_); rintro e w1 ⟨rfl, rfl⟩)))
   have hB := below_alloc w (.cells #[.int .i64 0, .string ⟨#[]⟩, .int .i64 0, .int .i64 0] 159)
   have k0 := hb_new w (.cells #[.int .i64 0, .string ⟨#[]⟩, .int .i64 0, .int .i64 0] 159)
   have r0 := hb_at k0 0 rfl
   have r1 := hb_at k0 1 rfl
   have r2 := hb_at k0 2 rfl
   have r3 := hb_at k0 3 rfl
   exact bodyPost_ret (v := .tuple #[tk0.v 0, .int .i64 0]) Q42 rfl ⟨rfl, by first | exact hB | exact (((hB.setCell (by simp) _).setCell (by simp) _).setCell (by simp) _).setCell (by simp) _⟩
 · rw [if_neg (by rw [hb]; simp; omega)]
   rw [hb] at HS
   clear hb
   have HL := Hd (fun W => clone_anyX E (by omega) W)
   go_enter Tryz.func222, Tryz.ntmps222
   go_wp2_with (first
    | (go_at_call 250; ((with_reducible refine (HT.out _).mono ?_); rintro e w1 ⟨rfl, rfl⟩))
    | (go_at_call 214; ((with_reducible refine (HC.out _).mono ?_); rintro e w1 ⟨rfl, rfl⟩))
    | (go_at_call 218; ((with_reducible refine (HS.out _).mono ?_); rintro e w1 ⟨rfl, rfl⟩))
    | (go_at_call 249; ((with_reducible refine (HL.out _).mono ?_); rintro e w2 ⟨rfl, hb⟩; obtain ⟨hc, hf⟩ := bcellX hb; have z2 := hb.size; rw [World.size_alloc] at z2; have y2 : w.heap.size < w2.heap.size := (by omega))))
   have hB : Below w.heap.size w w2 := (below_alloc w _).trans (hb.mono (by simp))
   have k0 := (hb_below (hb_new w (.cells #[.int .i64 0, .string ⟨#[]⟩, .int .i64 0, .int .i64 0] 159)) hb (by simp))
   have r0 := hb_at k0 0 rfl
   have r1 := hb_at k0 1 rfl
   have r2 := hb_at k0 2 rfl
   have r3 := hb_at k0 3 rfl
   exact bodyPost_ret (v := .tuple #[Tk.v ⟨3, E, 0⟩ 0, .int .i64 (1 + (N : Int))]) (by simp [results, Tryz.results222, go_sem, r0, r1, r2, r3, Tk.v]) rfl ⟨rfl, (((hB.setCell (by simp) _).setCell (by simp) _).setCell (by simp) _).setCell (by simp) _⟩
end Go.Proofs.YtmkjalnlldpdcaaGreatDoor
