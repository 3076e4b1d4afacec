
/- Tell. -/
import Derived.Test.YtpedmkdpbdhenaaGreatDoorLr
namespace Go.Proofs.YtpedmkdpbdhenaaGreatDoor
open Go.RowKit
set_option linter.unusedSimpArgs false
set_option linter.unusedVariables false
theorem info9 : (Tryz.prog.info? 9).map (fun i => (i.zero, i.size, i.bytes)) = some (some (.string ⟨#[]⟩), 1, 16) := by kernel_rfl
/-- Texts in a row of one's own. -/
def TxS (w : World) (v : Value) (ts : List ByteArray) (wr : World) : Prop := Below w.heap.size w wr ∧ wr.ownsRow w.heap.size 9 1 v ts.length (ts.map Value.string)
theorem TxS.below {w wr w2 : World} {v : Value} {ts : List ByteArray} (h : TxS w v ts wr) (hb : Below wr.heap.size wr w2) : TxS w v ts w2 := by
  refine ⟨h.1.trans (hb.mono h.1.size), ?_⟩
  have hg : wr.grownBy w2 none := ⟨hb.os, hb.tape, hb.output, hb.size, fun k hk _ => hb.block k hk⟩
  exact World.ownsRow.kept h.2 hg (by cases e : v.ownBlock <;> simp)
theorem TxS.grow {w wr w2 : World} {v v' : Value} {ts : List ByteArray} {s : ByteArray} (h : TxS w v ts wr) (ho : w2.ownsRow w.heap.size 9 1 v' (ts.length + 1) (ts.map Value.string ++ [.string s])) (hg : wr.grownBy w2 v.ownBlock) : TxS w v' (ts ++ [s]) w2 := by
  refine ⟨h.1.grown hg h.1.size fun k hk => (h.2.lt k hk).1, ?_⟩
  simpa using ho
theorem TxS.shape {w wr : World} {v : Value} {ts : List ByteArray} (h : TxS w v ts wr) : ∃ ao cap, v = .slice ao ts.length cap := by
  rcases h.2.2 with ⟨hv, h0⟩ | ⟨g, cap, cur, hv, _⟩
  · exact ⟨none, 0, by rw [hv, h0]⟩
  · exact ⟨_, _, hv⟩
theorem TxS.join {w wr : World} {v : Value} {ts : List ByteArray} (h : TxS w v ts wr) (hn : ts.length ≤ 140737488355328) (hl : (Lib.join (ts.map (·.data.toList)) [32]).length ≤ 140737488355328) :
    Calls Tryz.prog 16 #[v, .string ⟨#[32]⟩] wr fun e w' => e = .returned (.string (ofL (Lib.join (ts.map (·.data.toList)) [32]))) ∧ Below wr.heap.size wr w' := by
  rcases h.2.2 with ⟨hv, h0⟩ | ⟨g, cap, cur, hv, hb, hg, hc, r⟩
  · subst hv
    have := List.eq_nil_of_length_eq_zero h0
    subst this
    exact (Tryz.strings_Join_none none 0 ⟨#[32]⟩ wr).mono fun e w' ⟨h1, h2⟩ => ⟨h1, by rw [h2]; exact Below.refl _ _⟩
  · subst hv
    refine (Tryz.strings_Join g 0 cap ts ⟨#[32]⟩ wr ?_ (hb_lt hg) hn hc hl).mono fun e w' h => h
    intro j x hx
    have := h.2.cells (g := g) rfl j (.string x) (by rw [List.getElem?_map, hx]; rfl)
    rw [add_zero_none] at this
    rw [Nat.zero_add]
    exact this
/-- Are all tokens such as may be? -/
def AllR (l : List (Tk × Int)) : Prop := ∀ x ∈ l, RightT x.1
/-- What is told of tokens. -/
def TellR (l : List (Tk × Int)) (w : World) (e : Ending) (w' : World) : Prop :=
  ((AllR l ∧ e = .returned (.tuple #[.string (ofL (joinT (l.map Prod.fst))), .int .i64 0])) ∨ (¬ AllR l ∧ e = .returned (.tuple #[.string ⟨#[]⟩, .int .i64 2]))) ∧ Below w.heap.size w w'
theorem joinT_len : ∀ (ts : List Tk) (m : Nat), (∀ t ∈ ts, (tellT t).length ≤ m) → (joinT ts).length ≤ ts.length * (m + 1) := by
  intro ts
  induction ts with
  | nil => intro m _; simp [joinT]
  | cons t r ih =>
    intro m h
    have h1 := h t (List.mem_cons_self ..)
    have h2 := ih m fun u hu => h u (List.mem_cons_of_mem _ hu)
    rw [joinT_cons, List.length_append, List.length_cons, Nat.add_mul]
    split
    · simp; omega
    · rw [List.length_cons]; omega
/-- What is asked of tokens that are told. -/
def Mod (l : List (Tk × Int)) : Prop := l.length ≤ 20000 ∧ ∀ x ∈ l, x.1.s.size ≤ 1000000 ∧ Fits x.1
set_option maxRecDepth 100000 in
theorem Mod.len {l : List (Tk × Int)} (h : Mod l) : (joinT (l.map Prod.fst)).length ≤ 40000460000 := by
  obtain ⟨m, hm⟩ : ∃ m, m = 2000022 := ⟨_, rfl⟩
  have h1 := joinT_len (l.map Prod.fst) m (by
    intro t ht
    obtain ⟨x, hx, rfl⟩ := List.mem_map.1 ht
    have h3 := h.2 x hx
    have h4 := tellT_len x.1 h3.2.1 h3.2.2
    omega)
  rw [List.length_map] at h1
  have h2 := Nat.mul_le_mul_right (m + 1) h.1
  have h5 : 20000 * (m + 1) = 40000460000 := by subst hm; rfl
  omega
theorem take_next {α : Type} {l : List α} {k : Nat} {x : α} (h : l[k]? = some x) : l.take (k + 1) = l.take k ++ [x] := by
  rw [List.take_add_one, h]; rfl
def txts (l : List (Tk × Int)) : List ByteArray := l.map fun x => ofL (tellT x.1)
set_option maxHeartbeats 8000000 in
set_option maxRecDepth 100000 in
theorem tellAll_any (v : Value) (l : List (Tk × Int)) (w : World) (hv : TksAt w v l) (hm : Mod l) (hw : LxW w) : Calls Tryz.prog 6 #[v] w (TellR l w) := by
  obtain ⟨q, c, rfl, hr⟩ := hv
  have hl := hm.1
  have hj := hm.len
  have HM := Lib.hid hm.2
  have HR := Lib.hid hr
  have HW := Lib.hid hw
  clear hr hw hm
  obtain ⟨i0, hi, hz0, hz1, hz2⟩ := info_parts info9
  have HI := Lib.hid hi
  have HZ0 := Lib.hid hz0
  have HZ1 := Lib.hid hz1
  have HZ2 := Lib.hid hz2
  clear hi hz0 hz1 hz2
  go_enter Tryz.func6, Tryz.ntmps6
  go_wp2
  go_loopw [4, 9] (fun u i wr => ∃ k : Nat, i = .int .i64 k ∧ k ≤ l.length ∧ TxS w u (txts (l.take k)) wr ∧ AllR (l.take k)) (fun _ i _ => l.length - (intOf i).toNat)
  case atStart => exact ⟨0, rfl, Nat.zero_le _, ⟨Below.refl _ _, World.ownsRow_nil _ _ _ _⟩, fun x hx => by cases hx⟩
  case round =>
    obtain ⟨k, rfl, hk, hT, hA⟩ := hrel
    have HT := Lib.hid hT
    have HA := Lib.hid hA
    have hws := hT.1.size
    have HLW := Lib.hid (HW.out.below hT.1)
    obtain ⟨ao, cap, hsh⟩ := hT.shape
    have hln : (txts (l.take k)).length = k := by unfold txts; rw [List.length_map, List.length_take]; omega
    rw [hln] at hsh
    subst hsh
    have HLN := Lib.hid hln
    clear hT hA hln
    by_cases hlt : k < l.length
    · have hki : (k : Int) < (l.length : Int) := by omega
      have hx := List.getElem?_eq_getElem hlt
      generalize l[k] = x at *
      have hxm : x ∈ l := List.mem_of_getElem? hx
      obtain ⟨hs1, hs2⟩ := HM.out x hxm
      have HRT := Lib.hid (fun W hW => right_any x.1 x.2 hs1 hs2 W hW)
      have HTL := Lib.hid (fun W hW => tell_any x.1 x.2 (by omega) hs2 W hW)
      obtain ⟨b, o, rfl, ha⟩ := HR.out k x hx
      obtain ⟨x0, x1, x2, x3⟩ := ha.below HT.out.1
      have hN1 : txts (l.take (k + 1)) = txts (l.take k) ++ [ofL (tellT x.1)] := by unfold txts; rw [take_next hx]; simp
      have HN1 := Lib.hid hN1
      have HX := Lib.hid hx
      have HXM := Lib.hid hxm
      clear ha hx hN1 hxm
      obtain ⟨⟨tk, ts, tn⟩, ta⟩ := x
      have HRT2 : RowKit.Hid (∀ W, LxW W → Calls Tryz.prog 8 #[.agg #[.int .i64 tk, .string ts, .int .i64 tn, .int .i64 ta]] W fun e w' => e = .returned (.bool (rightB ⟨tk, ts, tn⟩)) ∧ Below W.heap.size W w') := HRT
      have HTL2 : RowKit.Hid (∀ W, LxW W → Calls Tryz.prog 15 #[.agg #[.int .i64 tk, .string ts, .int .i64 tn, .int .i64 ta]] W fun e w' => e = .returned (.string (ofL (tellT ⟨tk, ts, tn⟩))) ∧ Below W.heap.size W w') := HTL
      clear HRT HTL
      simp only [] at x0 x1 x2 x3 hs1
      generalize hD : txts (l.take k) = D at *
      have HD := Lib.hid hD
      clear hD
      rcases (Bool.eq_false_or_eq_true (rightB ⟨tk, ts, tn⟩)).symm with hb | hb
      · rw [hb] at HRT2
        have HNO : RowKit.Hid (¬ AllR l) := Lib.hid (fun h => by
          have h1 := h _ HXM.out
          rw [rightB_yes h1] at hb
          cases hb)
        clear hb
        go_wp2_with (go_at_call 8; refine (HRT2.out _ (HLW.out.below (below_alloc wr _))).mono ?_; rintro e w1 ⟨rfl, hb1⟩; have HB1 := Lib.hid hb1; clear hb1)
        go_ret2
        exact ⟨.inr ⟨HNO.out, rfl⟩, HT.out.1.trans (((below_alloc wr _).trans (HB1.out.mono (by simp))).mono hws)⟩
      · rw [hb] at HRT2
        have HYES := Lib.hid (rightB_of hb)
        clear hb
        go_wp2_with (first
          | (go_at_call 8; refine (HRT2.out _ (HLW.out.below (below_alloc wr _))).mono ?_; rintro e w1 ⟨rfl, hb1⟩; have HB1 := Lib.hid hb1; have z1 := hb1.size; rw [World.size_alloc] at z1; have k1 := hb_below (hb_new wr (.cells #[.int .i64 tk, .string ts, .int .i64 tn, .int .i64 ta] 32)) hb1 (by simp); have r0 := hb_at k1 0 rfl; have r1 := hb_at k1 1 rfl; have r2 := hb_at k1 2 rfl; have r3 := hb_at k1 3 rfl; clear hb1 k1)
          | (go_at_call 15; refine (HTL2.out _ ((HLW.out.below (below_alloc wr _)).below HB1.out)).mono ?_; rintro e w2 ⟨rfl, hb2⟩; have HB2 := Lib.hid hb2; have z2 := hb2.size; clear hb2)
          | (at_builtin; refine (fun h : True → _ => h trivial) ?_))
        intro _
        have hT2 := ((HT.out.below (below_alloc wr (.cells #[.int .i64 tk, .string ts, .int .i64 tn, .int .i64 ta] 32))).below HB1.out).below HB2.out
        have hT3 := hT2.below (below_alloc w2 (.cells #[.string (ofL (tellT ⟨tk, ts, tn⟩))] 9))
        refine wpList_append_own_at _ rfl _ _ 36 rfl w.heap.size 9 i0 (.string ⟨#[]⟩) 1 16 Tryz.underlying36 HI.out HZ0.out HZ1.out HZ2.out rfl (by decide) _ _ _ rfl hT3.2 ⟨w2.heap.size, 0, none⟩ 1 1 [.string (ofL (tellT ⟨tk, ts, tn⟩))] rfl rfl (new_cells w2 #[.string (ofL (tellT ⟨tk, ts, tn⟩))] 9 _ rfl) (by simp [Value.oneCell']) (by have := HLN.out; unfold maxLen; omega) (by have := HLN.out; omega) (by have := hT3.1.size; omega) ?_
        intro v4 w4 ho4 hg4 _ _
        have hX4 := hT3.grow ho4 hg4
        have HX4 := Lib.hid hX4
        clear ho4 hg4 hX4 hT2 hT3
        go_wp2
        exact ⟨⟨k + 1, rfl, by omega, by rw [HN1.out]; exact HX4.out, fun y hy => by
          rw [take_next HX.out] at hy
          rcases List.mem_append.1 hy with h | h
          · exact HA.out y h
          · rw [List.mem_singleton.1 h]; exact HYES.out⟩, by simp [intOf]; omega⟩
    · have hki : ¬ (k : Int) < (l.length : Int) := by omega
      obtain rfl : k = l.length := by omega
      have hfull : l.take l.length = l := List.take_length
      rw [hfull] at HT HA HLN
      have hmap : (txts l).map (·.data.toList) = (l.map Prod.fst).map tellT := by unfold txts; simp
      have HJ := Lib.hid (HT.out.join (by have := HLN.out; omega) (by rw [hmap, ← joinT_eq]; omega))
      rw [hmap, ← joinT_eq] at HJ
      clear hmap hfull
      go_wp2_with (go_at_call 16; refine (HJ.out).mono ?_; rintro e w1 ⟨rfl, hb1⟩; have HB1 := Lib.hid hb1; clear hb1)
      go_ret2
      exact ⟨.inl ⟨HA.out, rfl⟩, HT.out.1.trans (HB1.out.mono hws)⟩
end Go.Proofs.YtpedmkdpbdhenaaGreatDoor
