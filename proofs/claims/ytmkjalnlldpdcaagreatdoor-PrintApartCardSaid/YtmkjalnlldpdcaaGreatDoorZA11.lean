/- Texts in a row: Lt S3 Lq T3. -/
import Derived.Test.YtmkjalnlldpdcaaGreatDoorZA8
import Derived.Test.YtmkjalnlldpdcaaGreatDoorZA10
import Derived.Test.YtmkjalnlldpdcaaGreatDoorZA1
import Derived.Shelf.Strings.Builder1
import Derived.Shelf.Strings.Builder2
import Derived.Shelf.Strings.OnBuilder
import Derived.Test.YtmkjalnlldpdcaaGreatDoorProg
import Derived.Test.YtmkjalnlldpdcaaGreatDoorZA9
import Derived.Lib.AppendIntMem
import Derived.Deep.RegionHeld3
import Derived.Outline
/- Tokens that Lex tells, in memory, and how long they are. -/
namespace Go.Proofs.YtmkjalnlldpdcaaGreatDoor
open Go.RowKit
set_option linter.unusedSimpArgs false
set_option linter.unusedVariables false
def Fits (t : Tk) : Prop := -9223372036854775808 ≤ t.n ∧ t.n ≤ 9223372036854775807
theorem cellsT_at : ∀ (l : List (Tk × Nat)) (i : Nat) (x : Tk × Nat), l[i]? = some x → (cellsT l)[i * 4]? = some (.int .i64 x.1.k) ∧ (cellsT l)[i * 4 + 1]? = some (.string x.1.s) ∧ (cellsT l)[i * 4 + 2]? = some (.int .i64 x.1.n) ∧ (cellsT l)[i * 4 + 3]? = some (.int .i64 (x.2 : Nat)) := by
  intro l
  induction l with
  | nil => intro i x h; cases h
  | cons y l ih =>
    intro i x h
    have hc : cellsT (y :: l) = .int .i64 y.1.k :: .string y.1.s :: .int .i64 y.1.n :: .int .i64 (y.2 : Nat) :: cellsT l := by unfold cellsT; rw [List.flatMap_cons]; rfl
    rw [hc]
    cases i with
    | zero => cases h; exact ⟨rfl, rfl, rfl, rfl⟩
    | succ i =>
      have h' : l[i]? = some x := h
      obtain ⟨h0, h1, h2, h3⟩ := ih i x h'
      have e0 : (i + 1) * 4 = i * 4 + 1 + 1 + 1 + 1 := by omega
      have e1 : (i + 1) * 4 + 1 = i * 4 + 1 + 1 + 1 + 1 + 1 := by omega
      have e2 : (i + 1) * 4 + 2 = i * 4 + 2 + 1 + 1 + 1 + 1 := by omega
      have e3 : (i + 1) * 4 + 3 = i * 4 + 3 + 1 + 1 + 1 + 1 := by omega
      rw [e3, e2, e1, e0]
      simp only [List.getElem?_cons_succ]
      exact ⟨h0, h1, h2, h3⟩
theorem tk0_fits : Fits tk0 := by unfold Fits tk0; simp
theorem int_fits {l : List UInt8} (h : intM l ≠ 0) : -9223372036854775808 ≤ intV l ∧ intV l ≤ 9223372036854775807 := by
  cases hp : Lib.hasPrefix l [45]
  · obtain ⟨e1, e2, e3⟩ := intM_plain hp h
    obtain ⟨m, hm, hs⟩ := intD_dec e2 e3
    have hV : intV l = (m : Int) := by unfold intV; rw [hp, hm]; rfl
    omega
  · obtain ⟨e1, e0, e2, e3⟩ := intM_neg hp h
    obtain ⟨m, hm, hs⟩ := intD_dec e2 e3
    have hV : intV l = -(m : Int) := by unfold intV; rw [hp, hm]; rfl
    omega
theorem nameT_fits (kind : Int) (l : List UInt8) : Fits (nameT kind (ofL l)).1 ∧ (nameT kind (ofL l)).1.s.size ≤ l.length := by
  rw [nameT_ofL]
  split
  · exact ⟨tk0_fits, Nat.zero_le _⟩
  · refine ⟨by unfold Fits; simp, ?_⟩
    show (ofL _).size ≤ _
    rw [ofL_size, List.length_take]; omega
theorem txF_said (L : List UInt8) : ∀ (f i : Nat) (said r : List UInt8) (n : Nat), txF L f i said = some (r, n) → r.length ≤ said.length + (L.length - i) := by
  intro f
  induction f with
  | zero => intro i said r n h; cases h
  | succ f ih =>
    intro i said r n h
    unfold txF at h
    split at h
    · cases h
    · cases hc : L[i]? with
      | none => rw [hc] at h; cases h
      | some c =>
        have hi := (List.getElem?_eq_some_iff.1 hc).1
        rw [hc] at h
        simp only [] at h
        split at h
        · cases h; omega
        · split at h
          · cases h
          · split at h
            · cases hd : L[i + 1]? with
              | none => rw [hd] at h; cases h
              | some d =>
                rw [hd] at h
                simp only [] at h
                split at h
                · have := ih _ _ _ _ h
                  rw [List.length_append, List.length_singleton] at this
                  omega
                · cases h
            · have := ih _ _ _ _ h
              rw [List.length_append, List.length_singleton] at this
              omega
/-- A token that is read says no more bytes than the text has. -/
theorem first_fits (l : List UInt8) : Fits (firstT (ofL l)).1 ∧ (firstT (ofL l)).1.s.size ≤ l.length := by
  have hz : ∀ k, Fits tk0 ∧ tk0.s.size ≤ k := fun k => ⟨tk0_fits, Nat.zero_le _⟩
  cases hc : l[0]? with
  | none => rw [firstT_none hc]; exact hz _
  | some c =>
    rw [firstT_at hc]
    split
    · exact nameT_fits _ _
    · split
      · exact nameT_fits _ _
      · split
        · rw [varT_ofL]
          split
          · exact hz _
          · refine ⟨by unfold Fits; simp, ?_⟩
            show (ofL _).size ≤ _
            rw [ofL_size, List.length_take, List.length_drop]; omega
        · split
          · unfold textT
            rw [ofL_list]
            cases h : txM l 1 [] with
            | none => exact hz _
            | some x =>
              obtain ⟨r, n⟩ := x
              refine ⟨by unfold Fits txR; simp, ?_⟩
              show (ofL r).size ≤ _
              rw [ofL_size]
              have := txF_said _ _ _ _ _ _ h
              simp at this
              omega
          · split
            · rw [numT_ofL]
              split
              · refine ⟨by unfold Fits; simp, ?_⟩
                show (ofL _).size ≤ _
                rw [ofL_size, List.length_take]; omega
              · split
                · exact hz _
                · rename_i hi
                  exact ⟨int_fits hi, Nat.zero_le _⟩
            · rw [signT_ofL]
              split
              · refine ⟨by unfold Fits; simp, ?_⟩
                show (ofL _).size ≤ _
                rw [ofL_size, List.length_take]; omega
              · split
                · refine ⟨by unfold Fits; simp, ?_⟩
                  show (ofL _).size ≤ _
                  rw [ofL_size, List.length_take]; omega
                · exact hz _
theorem Lexed.fits {l : List UInt8} {i : Nat} {r : List (Tk × Nat)} (h : Lexed l i r) : ∀ x ∈ r, Fits x.1 ∧ x.1.s.size ≤ l.length := by
  induction h with
  | nil i => intro x hx; cases hx
  | cons l i n m t r h h0 hm hr ih =>
    intro x hx
    cases hx with
    | head =>
      have := first_fits l
      rw [h] at this
      exact this
    | tail _ hx =>
      have := ih x hx
      rw [List.length_drop] at this
      exact ⟨this.1, by omega⟩
/-- What Lex tells is such that it can be told, and may be. -/

theorem lexM_small {s : ByteArray} (h : (lexM s).2.2 = 0) : s.size ≤ 20000 ∧ (lexM s).1.length ≤ 6000 ∧ ∀ x ∈ (lexM s).1, Fits x.1 ∧ x.1.s.size ≤ 20000 := by
  obtain ⟨h1, h2, h3, _⟩ := lexM_lexed h
  refine ⟨h1, h3, fun x hx => ?_⟩
  obtain ⟨e1, e2⟩ := h2.fits x hx
  refine ⟨e1, Nat.le_trans e2 ?_⟩
  rw [List.length_drop, len_list]
  omega
theorem TkRow.tok {B r : Nat} {w : World} {v : Value} {l : List (Tk × Nat)} (h : TkRow B w v l) (hr : w.heap.size ≤ r) (hl : l.length ≤ 6000) (hz : ∀ x ∈ l, x.1.s.size ≤ 4194304) : TokS r w v l := by
  rcases h.2 with ⟨hv, h0⟩ | ⟨g, cap, cur, hv, hb, hg, hn, hc, _⟩
  · have := List.eq_nil_of_length_eq_zero h0
    subst this
    exact ⟨Option.none, 0, hv, Nat.le_refl _, Nat.zero_le _, hl, fun i x hx => by cases hx⟩
  · subst hv
    have hgl := hb_lt hg
    refine ⟨some ⟨g, 0, Option.none⟩, cap, rfl, hn, hc, hl, fun i x hx => ⟨hz x (List.mem_of_getElem? hx), g, 0, rfl, by omega, ?_⟩⟩
    obtain ⟨h0, h1, h2, h3⟩ := cellsT_at l i x hx
    have hc := World.ownsRow.cells h (g := g) rfl
    refine ⟨?_, ?_, ?_, ?_⟩
    · have := hc _ _ h0; rw [add_zero_none] at this; rw [Nat.zero_add]; exact this
    · have := hc _ _ h1; rw [add_zero_none] at this; rw [Nat.zero_add]; exact this
    · have := hc _ _ h2; rw [add_zero_none] at this; rw [Nat.zero_add]; exact this
    · have := hc _ _ h3; rw [add_zero_none] at this; rw [Nat.zero_add]; exact this
end Go.Proofs.YtmkjalnlldpdcaaGreatDoor
/-
  DERIVED: THE SHELF's CONTRACTS AT THIS DUMP, IN PLAIN WORDS (tools/lay-plain.mjs out of 'YtmkjalnlldpdcaaGreatDoorS3x.lean', which tools/lay-shelf.mjs wrote): THE SAME DECLARATIONS UNDER THE SAME NAMES: 'import', 'namespace', 'open', 'def', 'theorem' AND NOTHING ELSE: no command of the shelf's: FOR A HAND-IN. Each laying: the table of numbers ('.._ren') and one theorem, a field a fact of the dump's own or the kernel's comparison; each contract: ONE APPLICATION.
-/
namespace Go.Proofs
open Go.Shelf
def Tryz.lays156_ren : Go.Shelf.Ren := ⟨fun | 156 => 152 | 165 => 204 | 166 => 149 | 169 => 48 | 240 => 202 | 241 => 246 | 276 => 244 | 277 => 268 | n => n, fun | 31 => 57 | 9 => 9 | 3 => 3 | 4 => 4 | 0 => 0 | 20 => 20 | 72 => 74 | 76 => 167 | 70 => 71 | 37 => 72 | 75 => 166 | 127 => 129 | 164 => 216 | 5 => 5 | 80 => 87 | n => n, fun | n => n⟩
theorem Tryz.lays156 : Go.Proofs.Lays.n156 Tryz.prog Tryz.lays156_ren := {
  mixed := by kernel_rfl
  f156 := Tryz.func152.trans (congrArg some (by kernel_rfl))
  f165 := Tryz.func204.trans (congrArg some (by kernel_rfl))
  f166 := Tryz.func149.trans (congrArg some (by kernel_rfl))
  f169 := Tryz.func48.trans (congrArg some (by kernel_rfl))
  f240 := Tryz.func202.trans (congrArg some (by kernel_rfl))
  f241 := Tryz.func246.trans (congrArg some (by kernel_rfl))
  f276 := Tryz.func244.trans (congrArg some (by kernel_rfl))
  f277 := Tryz.func268.trans (congrArg some (by kernel_rfl))
  t0 := Tryz.underlying0
  a0 := Tryz.isAgg0
  z0 := Tryz.sizeOf0
  v0 := Tryz.zeroValue0
  t3 := Tryz.underlying3
  a3 := Tryz.isAgg3
  z3 := Tryz.sizeOf3
  v3 := Tryz.zeroValue3
  t4 := Tryz.underlying4
  a4 := Tryz.isAgg4
  z4 := Tryz.sizeOf4
  v4 := Tryz.zeroValue4
  t9 := Tryz.underlying9
  a9 := Tryz.isAgg9
  z9 := Tryz.sizeOf9
  v9 := Tryz.zeroValue9
  t20 := Tryz.underlying20
  a20 := Tryz.isAgg20
  z20 := Tryz.sizeOf20
  v20 := Tryz.zeroValue20
  t31 := Tryz.underlying57
  a31 := Tryz.isAgg57
  z31 := Tryz.sizeOf57
  v31 := Tryz.zeroValue57
  t37 := Tryz.underlying72
  a37 := Tryz.isAgg72
  z37 := Tryz.sizeOf72
  v37 := Tryz.zeroValue72
  t70 := Tryz.underlying71
  a70 := Tryz.isAgg71
  z70 := Tryz.sizeOf71
  v70 := Tryz.zeroValue71
  t72 := Tryz.underlying74
  a72 := Tryz.isAgg74
  z72 := Tryz.sizeOf74
  v72 := Tryz.zeroValue74
  t75 := Tryz.underlying166
  a75 := Tryz.isAgg166
  z75 := Tryz.sizeOf166
  v75 := Tryz.zeroValue166
  t76 := Tryz.underlying167
  a76 := Tryz.isAgg167
  z76 := Tryz.sizeOf167
  v76 := Tryz.zeroValue167
  t127 := Tryz.underlying129
  a127 := Tryz.isAgg129
  z127 := Tryz.sizeOf129
  v127 := Tryz.zeroValue129
  t164 := Tryz.underlying216
  a164 := Tryz.isAgg216
  z164 := Tryz.sizeOf216
  v164 := Tryz.zeroValue216 }
theorem Tryz.Builder_Extra_156 : Builder.Extra Tryz.prog Tryz.lays156_ren := {
  sizeBuilder := by kernel_rfl
  liesBuilder := by kernel_rfl
  t5 := Tryz.underlying5
  a5 := Tryz.isAgg5
  z5 := Tryz.sizeOf5
  v5 := Tryz.zeroValue5
  infoByte := by kernel_rfl
  cellsByte := by kernel_rfl
  sizeByte := by kernel_rfl
  neB5 := by decide }
open Go.RowKit in
/-- No element: the empty string; the world is as it was. (Whatever the slice's address and capacity: a nil slice too.) (LAID: no walk: one application.) -/
theorem Tryz.strings_Join_none (a : Option Addr) (c : Nat) (sep : ByteArray) (w : World) :
    Calls Tryz.prog 152 #[.slice a 0 c, .string sep] w fun e w' => e = .returned (.string ⟨#[]⟩) ∧ w' = w := Any.strings_Join_none Tryz.lays156 Tryz.Builder_Extra_156 a c sep w
open Go.RowKit in
/-- strings.Join: "Join concatenates the elements of its first argument to create a single string. The separator string sep is placed between elements in the resulting string.": HOWEVER MANY ELEMENTS. Below the heap's end the world is as it was. (LAID: no walk: one application.) -/
theorem Tryz.strings_Join (bk o c : Nat) (xs : List ByteArray) (sep : ByteArray) (w : World) (hcells : ∀ (j : Nat) x, xs[j]? = some x → w.cell? ⟨bk, o + j, none⟩ = some (.string x)) (hbk : bk < w.heap.size) (hN : xs.length ≤ 140737488355328) (hcap : xs.length ≤ c) (hlen : (Lib.join (xs.map (·.data.toList)) sep.data.toList).length ≤ 140737488355328) :
    Calls Tryz.prog 152 #[.slice (some ⟨bk, o, none⟩) xs.length c, .string sep] w fun e w' => e = .returned (.string ⟨(Lib.join (xs.map (·.data.toList)) sep.data.toList).toArray⟩) ∧ Below w.heap.size w w' := Any.strings_Join Tryz.lays156 Tryz.Builder_Extra_156 bk o c xs sep w hcells hbk hN hcap hlen
end Go.Proofs
/- Tokens in memory; a token, as it is told. -/
namespace Go.Proofs.YtmkjalnlldpdcaaGreatDoor
open Go.RowKit
set_option linter.unusedSimpArgs false
set_option linter.unusedVariables false
abbrev Tab (w : World) : Prop := Lib.TabBelow Tryz.prog w.heap.size w "internal/strconv.uint64pow10" .u64 Lib.pow10Tab
theorem Tab.on {w w' : World} (h : Tab w) (hb : Below w.heap.size w w') : Tab w' := fun u hu => h u (hb.trans (hu.mono hb.size))
/-- The tables that the lexer looks at. -/
def LxW (w : World) : Prop := EscW w ∧ Tab w
theorem LxW.below {w w' : World} (h : LxW w) (hb : Below w.heap.size w w') : LxW w' := by
  exact ⟨h.1.below hb h.1.pos, h.2.on hb⟩
theorem itoaT_any (n : Int) (h0 : -9223372036854775808 ≤ n) (h : n ≤ 9223372036854775807) (w : World) (ht : Tab w) : Calls Tryz.prog 151 #[.int .i64 n] w fun e w' => e = .returned (.string (ofL (Lib.itoa n))) ∧ Below w.heap.size w w' :=
  (Tryz.strconv_Itoa n h0 h w (Lib.TabBelow.here ht)).mono fun e w' ⟨he, k, os, hw⟩ => ⟨he, by rw [hw]; exact Lib.below_grow _ w (Nat.le_refl _) k os⟩
theorem str_add (a b : ByteArray) : a ++ b = ofL (a.data.toList ++ b.data.toList) := by
  apply ByteArray.ext
  simp [ofL]
set_option maxHeartbeats 4000000 in
theorem tell_any (t : Tk) (a : Int) (hm : t.s.size ≤ 4194304) (hf : Fits t) (w : World) (hw : LxW w) :
    Calls Tryz.prog 200 #[t.v a] w fun e w' => e = .returned (.string (ofL (tellT t))) ∧ Below w.heap.size w w' := by
  obtain ⟨k, s, n⟩ := t
  have hm' : s.size ≤ 4194304 := hm
  have hf0 : -9223372036854775808 ≤ n := hf.1
  have hf1 : n ≤ 9223372036854775807 := hf.2
  have HW := Lib.hid hw
  clear hw hm hf
  unfold Tk.v
  show Calls Tryz.prog 200 #[.agg #[.int .i64 k, .string s, .int .i64 n, .int .i64 a]] w _
  by_cases h3 : k = 3
  · subst h3
    have he : tellT ⟨3, s, n⟩ = 39 :: s.data.toList := rfl
    have hs : (⟨#[39]⟩ : ByteArray) ++ s = ofL (39 :: s.data.toList) := str_add _ _
    rw [he]
    go_enter Tryz.func200, Tryz.ntmps200
    go_wp2
    go_ret
    exact ⟨rfl, below_alloc w _⟩
  by_cases h4 : k = 4
  · subst h4
    have he : tellT ⟨4, s, n⟩ = Lib.itoa n := rfl
    rw [he]
    have HI := Lib.hid (fun W hW => itoaT_any n hf0 hf1 W hW)
    go_enter Tryz.func200, Tryz.ntmps200
    go_wp2_with (go_at_call 151; refine (HI.out _ (HW.out.below (below_alloc w _)).2).mono ?_; rintro e w1 ⟨rfl, hb⟩)
    go_ret
    exact ⟨rfl, (below_alloc w _).trans (hb.mono (by simp))⟩
  by_cases h5 : k = 5
  · subst h5
    have he : tellT ⟨5, s, n⟩ = telL s.data.toList := rfl
    rw [he]
    have HI := Lib.hid (fun W hW => tellText_any s hm' W hW)
    go_enter Tryz.func200, Tryz.ntmps200
    go_wp2_with (go_at_call 233; refine (HI.out _ (HW.out.below (below_alloc w _)).1).mono ?_; rintro e w1 ⟨rfl, hb⟩)
    go_ret
    exact ⟨rfl, (below_alloc w _).trans (hb.mono (by simp))⟩
  have he : ofL (tellT ⟨k, s, n⟩) = s := by
    unfold tellT
    rw [if_neg h3, if_neg h4, if_neg h5]
  rw [he]
  clear he
  have d3 : (k == 3) = false := by rw [beq_eq_false_iff_ne]; exact h3
  have d4 : (k == 4) = false := by rw [beq_eq_false_iff_ne]; exact h4
  have d5 : (k == 5) = false := by rw [beq_eq_false_iff_ne]; exact h5
  go_enter Tryz.func200, Tryz.ntmps200
  go_wp2
  go_ret
  exact ⟨rfl, below_alloc w _⟩
/-- A token in memory. -/
def TkAt (w : World) (b o : Nat) (t : Tk) (a : Int) : Prop :=
  w.cell? ⟨b, o, none⟩ = some (.int .i64 t.k) ∧ w.cell? ⟨b, o + 1, none⟩ = some (.string t.s) ∧ w.cell? ⟨b, o + 2, none⟩ = some (.int .i64 t.n) ∧ w.cell? ⟨b, o + 3, none⟩ = some (.int .i64 a)
theorem TkAt.below {w w' : World} {b o : Nat} {t : Tk} {a : Int} (h : TkAt w b o t a) (hb : Below w.heap.size w w') : TkAt w' b o t a := by
  have hlt : b < w.heap.size := block_lt_of_cell h.1
  have hk : ∀ j, w'.cell? ⟨b, j, none⟩ = w.cell? ⟨b, j, none⟩ := fun j => hb.cell (p := ⟨b, j, none⟩) hlt
  exact ⟨by rw [hk, h.1], by rw [hk, h.2.1], by rw [hk, h.2.2.1], by rw [hk, h.2.2.2]⟩
/-- A slice of tokens, each with its place. -/
def TksAt (w : World) (v : Value) (l : List (Tk × Int)) : Prop := ∃ q c, v = .slice q l.length c ∧ ∀ i x, l[i]? = some x → ∃ b o, q = some ⟨b, o, none⟩ ∧ TkAt w b (o + i * 4) x.1 x.2
theorem TksAt.below {w w' : World} {v : Value} {l : List (Tk × Int)} (h : TksAt w v l) (hb : Below w.heap.size w w') : TksAt w' v l := by
  obtain ⟨q, c, h1, h2⟩ := h
  refine ⟨q, c, h1, fun i x hx => ?_⟩
  obtain ⟨b, o, e, ha⟩ := h2 i x hx
  exact ⟨b, o, e, ha.below hb⟩
end Go.Proofs.YtmkjalnlldpdcaaGreatDoor
/- Same, of the document. -/
namespace Go.Proofs.YtmkjalnlldpdcaaGreatDoor
open Go.RowKit
def SameR (ta tb : Tm) (w : World) (e : Ending) (w' : World) : Prop := e = .returned (.bool (same ta tb)) ∧ Below w.heap.size w w'
theorem toList_inj {a b : ByteArray} (h : a.toList = b.toList) : a = b := by
  rw [ByteArray.toList_eq, ByteArray.toList_eq] at h
  cases a; cases b
  simpa using h
theorem size_two (w : World) (o1 o2 : Obj) : ((w.alloc o1).alloc o2).heap.size = w.heap.size + 2 := by simp
/-- Two lists of terms that are one as far as k. -/
def Agree (k : Nat) (l1 l2 : List Tm) : Prop := ∀ (j : Nat) (x y : Tm), j < k → l1[j]? = some x → l2[j]? = some y → x = y
theorem agree_all {l1 l2 : List Tm} (hl : l1.length = l2.length) (h : Agree l1.length l1 l2) : l1 = l2 := by
  apply List.ext_getElem hl
  intro i h1 h2
  exact h i _ _ h1 (List.getElem?_eq_getElem h1) (List.getElem?_eq_getElem h2)
theorem agree_next {k : Nat} {l1 l2 : List Tm} {x y : Tm} (h : Agree k l1 l2) (h1 : l1[k]? = some x) (h2 : l2[k]? = some y) (e : x = y) : Agree (k + 1) l1 l2 := by
  intro j x' y' hj hx hy
  rcases Nat.lt_or_ge j k with hj2 | hj2
  · exact h j x' y' hj2 hx hy
  · obtain rfl : j = k := by omega
    rw [h1] at hx; rw [h2] at hy
    cases hx; cases hy
    exact e
theorem agree_not {k : Nat} {l1 l2 : List Tm} {x y : Tm} (h1 : l1[k]? = some x) (h2 : l2[k]? = some y) (e : x ≠ y) : l1 ≠ l2 := by
  rintro rfl
  rw [h1] at h2
  exact e (Option.some.inj h2)
set_option maxRecDepth 100000 in
set_option maxHeartbeats 4000000 in
set_option maxRecDepth 100000 in
set_option maxHeartbeats 4000000 in
theorem refSame_any (d : Nat) : ∀ (va vb : Value) (ta tb : Tm) (w : World), IsT w d va ta → IsT w d vb tb → Calls Tryz.prog 24 #[va, vb] w (SameR ta tb w) := by
  induction d with
  | zero => intro va vb ta tb w h; cases h
  | succ d ih =>
    intro va vb ta tb w ha hb
    obtain ⟨d1, k1, p1, n1, N1, s1, l1, e1, rfl, rfl, hp1, hn1, hk1⟩ := ha.open
    obtain rfl : d = d1 := by omega
    obtain ⟨d2, k2, p2, n2, N2, s2, l2, e2, rfl, rfl, hp2, hn2, hk2⟩ := hb.open
    obtain rfl : d = d2 := by omega
    obtain ⟨q1, c1, hs1, hm1, hr1⟩ := hk1
    obtain ⟨q2, c2, hs2, hm2, hr2⟩ := hk2
    subst hs1 hs2
    have HR1 := Lib.hid hr1
    have HR2 := Lib.hid hr2
    clear ha hb e1 e2 hr1 hr2 hp1 hn1 hp2 hn2
    unfold maxLen at hm1 hm2
    by_cases hk : k1 = k2
    rotate_left
    · go_enter Tryz.func24, Tryz.ntmps24
      go_wp2
      go_ret
      exact ⟨ret_bool (same_no (by intro h; cases h; exact hk rfl)).symm, below2 w _ _⟩
    subst hk
    by_cases hp : p1 = p2
    rotate_left
    · have hp' : ¬ p1.toList = p2.toList := fun h => hp (toList_inj h)
      have HP := Lib.hid hp
      clear hp
      go_enter Tryz.func24, Tryz.ntmps24
      go_wp2
      go_ret
      exact ⟨ret_bool (same_no (by intro h; cases h; exact HP.out rfl)).symm, below2 w _ _⟩
    subst hp
    by_cases hn : n1 = n2
    rotate_left
    · have hn' : ¬ n1.toList = n2.toList := fun h => hn (toList_inj h)
      have HP := Lib.hid hn
      clear hn
      go_enter Tryz.func24, Tryz.ntmps24
      go_wp2
      go_ret
      exact ⟨ret_bool (same_no (by intro h; cases h; exact HP.out rfl)).symm, below2 w _ _⟩
    subst hn
    by_cases hN : N1 = N2
    rotate_left
    · go_enter Tryz.func24, Tryz.ntmps24
      go_wp2
      go_ret
      exact ⟨ret_bool (same_no (by intro h; cases h; exact hN rfl)).symm, below2 w _ _⟩
    subst hN
    by_cases hL : l1.length = l2.length
    rotate_left
    · have hl' : ((l1.length : Int) != (l2.length : Int)) = true := by simp; omega
      have HP := Lib.hid hL
      clear hL
      go_enter Tryz.func24, Tryz.ntmps24
      go_wp2
      go_ret
      exact ⟨ret_bool (same_no (by intro h; cases h; exact HP.out rfl)).symm, below2 w _ _⟩
    have hl' : ((l1.length : Int) != (l2.length : Int)) = false := by simp; omega
    have HL := Lib.hid hL
    have b1 := hb_alloc (hb_new w (.cells #[.int .i64 k1, .string p1, .string n1, .int .i64 N1, .slice q1 l1.length c1] 24)) (.cells #[.int .i64 k1, .string p1, .string n1, .int .i64 N1, .slice q2 l2.length c2] 24)
    have b2 := hb_new (w.alloc (.cells #[.int .i64 k1, .string p1, .string n1, .int .i64 N1, .slice q1 l1.length c1] 24)) (.cells #[.int .i64 k1, .string p1, .string n1, .int .i64 N1, .slice q2 l2.length c2] 24)
    rw [World.size_alloc] at b2
    have B1 := Lib.hid b1
    have B2 := Lib.hid b2
    clear b1 b2 hL
    have hL' : l1.length ≤ l2.length := by have := HL.out; omega
    go_enter Tryz.func24, Tryz.ntmps24
    go_wp2
    generalize hW2 : (w.alloc (.cells #[.int .i64 k1, .string p1, .string n1, .int .i64 N1, .slice q1 l1.length c1] 24)).alloc (.cells #[.int .i64 k1, .string p1, .string n1, .int .i64 N1, .slice q2 l2.length c2] 24) = W2 at *
    have hz2 : W2.heap.size = w.heap.size + 2 := by rw [← hW2]; exact size_two w _ _
    have hBW : Below w.heap.size w W2 := by rw [← hW2]; exact below2 w _ _
    have HBW := Lib.hid hBW
    have HZ2 := Lib.hid hz2
    have hz2' : w.heap.size + 2 ≤ W2.heap.size := by omega
    clear hW2 hz2 hBW
    go_loopw [5] (fun i wr => ∃ k : Nat, k ≤ l1.length ∧ i = .int .i64 k ∧ Agree k l1 l2 ∧ Below W2.heap.size W2 wr) (fun i _ => l1.length - (intOf i).toNat)
    case atStart => exact ⟨0, Nat.zero_le _, rfl, fun j x y hj => by omega, Below.refl _ _⟩
    case round =>
      obtain ⟨k, hk, rfl, hag, hB⟩ := hrel
      have HAG := Lib.hid hag
      have HB := Lib.hid hB
      have hzr := hB.size
      clear hag
      have m0 : wr.cell? ⟨w.heap.size, 4, none⟩ = some (.slice q1 l1.length c1) := (HB.out.cell (p := ⟨w.heap.size, 4, none⟩) (by simp; omega)).trans (hb_at B1.out 4 rfl)
      by_cases hlt : k < l1.length
      · have hlt2 : k < l2.length := by omega
        have hx1 := List.getElem?_eq_getElem hlt
        have hx2 := List.getElem?_eq_getElem hlt2
        generalize l1[k] = x at *
        generalize l2[k] = y at *
        obtain ⟨b1, o1, k1', p1', n1', N1', s1', hq1, ha1, ht1⟩ := HR1.out k x hx1
        obtain ⟨b2, o2, k2', p2', n2', N2', s2', hq2, ha2, ht2⟩ := HR2.out k y hx2
        subst hq1 hq2
        have HX1 := Lib.hid hx1
        have HX2 := Lib.hid hx2
        have hBR : Below w.heap.size w wr := HBW.out.trans (hB.mono (by omega))
        have HBR := Lib.hid hBR
        obtain ⟨x0, x1, x2, x3, x4⟩ := ha1.below hBR ha1.lt
        obtain ⟨y0, y1, y2, y3, y4⟩ := ha2.below hBR ha2.lt
        have m1 := m0
        clear m0
        have m2 : wr.cell? ⟨w.heap.size + 1, 4, none⟩ = some (.slice (some ⟨b2, o2, none⟩) l2.length c2) := (hB.cell (p := ⟨w.heap.size + 1, 4, none⟩) (by simp; omega)).trans (hb_at B2.out 4 rfl)
        have HC : RowKit.Hid (∀ W, Below wr.heap.size wr W → Calls Tryz.prog 24 #[tv k1' p1' n1' N1' s1', tv k2' p2' n2' N2' s2'] W (SameR x y W)) :=
          Lib.hid fun W hW => ih _ _ _ _ W ((ht1.below hBR).below hW) ((ht2.below hBR).below hW)
        have hki1 : (k : Int) < (l1.length : Int) := by omega
        have hki2 : (k : Int) < (l2.length : Int) := by omega
        clear hx1 hx2 ht1 ht2 ha1 ha2 hB hBR
        go_wp2
        refine wp_region_held_drew (S := (fun w' => RowKit.Hid (Below wr.heap.size wr w') ∧ w'.cell? ⟨w.heap.size, 4, none⟩ = some (.slice (some ⟨b1, o1, none⟩) l1.length c1) ∧ w'.cell? ⟨w.heap.size + 1, 4, none⟩ = some (.slice (some ⟨b2, o2, none⟩) l2.length c2) ∧ w'.cell? ⟨b1, o1 + k * 5, none⟩ = some (.int .i64 k1') ∧ w'.cell? ⟨b1, o1 + k * 5 + 1, none⟩ = some (.string p1') ∧ w'.cell? ⟨b1, o1 + k * 5 + 2, none⟩ = some (.string n1') ∧ w'.cell? ⟨b1, o1 + k * 5 + 3, none⟩ = some (.int .i64 N1') ∧ w'.cell? ⟨b1, o1 + k * 5 + 4, none⟩ = some (s1') ∧ w'.cell? ⟨b2, o2 + k * 5, none⟩ = some (.int .i64 k2') ∧ w'.cell? ⟨b2, o2 + k * 5 + 1, none⟩ = some (.string p2') ∧ w'.cell? ⟨b2, o2 + k * 5 + 2, none⟩ = some (.string n2') ∧ w'.cell? ⟨b2, o2 + k * 5 + 3, none⟩ = some (.int .i64 N2') ∧ w'.cell? ⟨b2, o2 + k * 5 + 4, none⟩ = some (s2'))) (by kernel_rfl) (by exact ⟨Lib.hid (below_drewN (Below.refl _ _) 1), m1, m2, x0, x1, x2, x3, x4, y0, y1, y2, y3, y4⟩) (fun hHeld => ?_)
        refine wpAnyH_take (i := 0) (oi := ⟨some 48, _, _, _, _, _⟩) (v := ?_) rfl (by kernel_rfl) (by kernel_rfl) (by kernel_rfl) (fun _ _ _ h => h) (Or.inl ⟨by rfl, ?_⟩) (by assumption) ?_
        rotate_left
        focus (intro w hSw; (try dsimp only at hSw); go_simp; first | done | with_reducible rfl)
        try simp only [Act.put, List.setIfInBounds_toArray, List.set_cons_zero, List.set_cons_succ]
        refine wpAnyH_take (i := 1) (oi := ⟨some 49, _, _, _, _, _⟩) (v := ?_) rfl (by kernel_rfl) (by kernel_rfl) (by kernel_rfl) (fun _ _ _ h => h) (Or.inl ⟨by rfl, ?_⟩) (by assumption) ?_
        rotate_left
        focus (intro w hSw; (try dsimp only at hSw); go_simp; first | done | with_reducible rfl)
        try simp only [Act.put, List.setIfInBounds_toArray, List.set_cons_zero, List.set_cons_succ]
        refine wpAnyH_take (i := 2) (oi := ⟨some 50, _, _, _, _, _⟩) (v := ?_) rfl (by kernel_rfl) (by kernel_rfl) (by kernel_rfl) (fun _ _ _ h => h) (Or.inl ⟨by rfl, ?_⟩) (by assumption) ?_
        rotate_left
        focus (intro w hSw; (try dsimp only at hSw); go_simp; first | done | with_reducible rfl)
        try simp only [Act.put, List.setIfInBounds_toArray, List.set_cons_zero, List.set_cons_succ]
        refine wpAnyH_take (i := 3) (oi := ⟨some 51, _, _, _, _, _⟩) (v := ?_) rfl (by kernel_rfl) (by kernel_rfl) (by kernel_rfl) (fun _ _ _ h => h) (Or.inl ⟨by rfl, ?_⟩) (by assumption) ?_
        rotate_left
        focus (intro w hSw; (try dsimp only at hSw); go_simp; first | done | with_reducible rfl)
        try simp only [Act.put, List.setIfInBounds_toArray, List.set_cons_zero, List.set_cons_succ]
        refine wpAnyH_take (i := 4) (oi := ⟨some 52, _, _, _, _, _⟩) (v := ?_) rfl (by kernel_rfl) (by kernel_rfl) (by kernel_rfl) (fun _ _ _ h => h) (Or.inl ⟨by rfl, ?_⟩) (by assumption) ?_
        rotate_left
        focus (intro w hSw; (try dsimp only at hSw); go_simp; first | done | with_reducible rfl)
        try simp only [Act.put, List.setIfInBounds_toArray, List.set_cons_zero, List.set_cons_succ]
        refine wpAnyH_take (i := 5) (oi := ⟨some 53, _, _, _, _, _⟩) (v := ?_) rfl (by kernel_rfl) (by kernel_rfl) (by kernel_rfl) (fun _ _ _ h => h) (Or.inl ⟨by rfl, ?_⟩) (by assumption) ?_
        rotate_left
        focus (intro w hSw; (try dsimp only at hSw); go_simp; first | done | with_reducible rfl)
        try simp only [Act.put, List.setIfInBounds_toArray, List.set_cons_zero, List.set_cons_succ]
        refine wpAnyH_take (i := 6) (oi := ⟨some 54, _, _, _, _, _⟩) (v := ?_) rfl (by kernel_rfl) (by kernel_rfl) (by kernel_rfl) (fun _ _ _ h => h) (Or.inl ⟨by rfl, ?_⟩) (by assumption) ?_
        rotate_left
        focus (intro w hSw; (try dsimp only at hSw); go_simp; first | done | with_reducible rfl)
        try simp only [Act.put, List.setIfInBounds_toArray, List.set_cons_zero, List.set_cons_succ]
        refine wpAnyH_take (i := 7) (oi := ⟨some 55, _, _, _, _, _⟩) (v := ?_) rfl (by kernel_rfl) (by kernel_rfl) (by kernel_rfl) (fun _ _ _ h => h) (Or.inl ⟨by rfl, ?_⟩) (by assumption) ?_
        rotate_left
        focus (intro w hSw; (try dsimp only at hSw); go_simp; first | done | with_reducible rfl)
        try simp only [Act.put, List.setIfInBounds_toArray, List.set_cons_zero, List.set_cons_succ]
        refine wpAnyH_take (i := 8) (oi := ⟨some 56, _, _, _, _, _⟩) (v := ?_) rfl (by kernel_rfl) (by kernel_rfl) (by kernel_rfl) (fun _ _ _ h => h) (Or.inl ⟨by rfl, ?_⟩) (by assumption) ?_
        rotate_left
        focus (intro w hSw; (try dsimp only at hSw); go_simp; first | done | with_reducible rfl)
        try simp only [Act.put, List.setIfInBounds_toArray, List.set_cons_zero, List.set_cons_succ]
        refine wpAnyH_take (i := 9) (oi := ⟨some 57, _, _, _, _, _⟩) (v := ?_) rfl (by kernel_rfl) (by kernel_rfl) (by kernel_rfl) (fun _ _ _ h => h) (Or.inl ⟨by rfl, ?_⟩) (by assumption) ?_
        rotate_left
        focus (intro w hSw; (try dsimp only at hSw); go_simp; first | done | with_reducible rfl)
        try simp only [Act.put, List.setIfInBounds_toArray, List.set_cons_zero, List.set_cons_succ]
        refine wpAnyH_ready (rs := [10]) (by kernel_rfl) (by simp) ?_
        refine AllReadyH.cons (o := ⟨some 58, _, _, _, _, _⟩) rfl (fun K hK => ?_) AllReadyH.nil
        go_simp
        ((with_reducible refine (HC.out _ hHeld.1.out).mono ?_); rintro e w3 ⟨rfl, hb⟩)
        go_wp2_with fail
        refine hK.out _ _ (by exact ⟨Lib.hid (hHeld.1.out.trans (hb.mono hHeld.1.out.size)), keep_cell hb hHeld.2.1, keep_cell hb hHeld.2.2.1, keep_cell hb hHeld.2.2.2.1, keep_cell hb hHeld.2.2.2.2.1, keep_cell hb hHeld.2.2.2.2.2.1, keep_cell hb hHeld.2.2.2.2.2.2.1, keep_cell hb hHeld.2.2.2.2.2.2.2.1, keep_cell hb hHeld.2.2.2.2.2.2.2.2.1, keep_cell hb hHeld.2.2.2.2.2.2.2.2.2.1, keep_cell hb hHeld.2.2.2.2.2.2.2.2.2.2.1, keep_cell hb hHeld.2.2.2.2.2.2.2.2.2.2.2.1, keep_cell hb hHeld.2.2.2.2.2.2.2.2.2.2.2.2⟩) (fun hNew => ?_)
        clear hK K
        clear hHeld hb; have hHeld := hNew; clear hNew
        try simp only [Act.put, List.setIfInBounds_toArray, List.set_cons_zero, List.set_cons_succ]
        refine wpAnyH_take (i := 11) (oi := ⟨some 59, _, _, _, _, _⟩) (v := ?_) rfl (by kernel_rfl) (by kernel_rfl) (by kernel_rfl) (fun _ _ _ h => h) (Or.inl ⟨by rfl, ?_⟩) (by assumption) ?_
        rotate_left
        focus (intro w hSw; (try dsimp only at hSw); go_simp; first | done | with_reducible rfl)
        try simp only [Act.put, List.setIfInBounds_toArray, List.set_cons_zero, List.set_cons_succ]
        refine wpAnyH_done (by kernel_rfl) ?_ _
        have HQ := Lib.hid (HB.out.trans (hHeld.1.out.mono hzr))
        clear hHeld
        generalize hg : same x y = r
        have HG := Lib.hid hg
        clear hg
        cases r
        · have HNO := Lib.hid (agree_not HX1.out HX2.out (fun e => by have h := HG.out; rw [e, same_self] at h; cases h))
          go_wp2
          go_ret
          exact ⟨ret_bool (same_no (by intro h; cases h; exact HNO.out rfl)).symm, HBW.out.trans (HQ.out.mono (by omega))⟩
        · have HAN := Lib.hid (agree_next HAG.out HX1.out HX2.out (same_iff.1 HG.out))
          go_wp2
          go_roundw
          case rel => exact ⟨k + 1, by omega, by go_num, HAN.out, HQ.out⟩
          case measure => simp [intOf]; omega
      · obtain rfl : k = l1.length := by omega
        go_wp2
        go_ret
        exact ⟨ret_bool (same_iff.2 (by rw [agree_all HL.out HAG.out])).symm, HBW.out.trans (HB.out.mono (by omega))⟩
end Go.Proofs.YtmkjalnlldpdcaaGreatDoor
