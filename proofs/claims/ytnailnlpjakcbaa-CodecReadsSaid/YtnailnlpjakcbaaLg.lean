/- For every input CodecReads returns true and leaves its arguments as they were: what any bytes are read as, call by call, is as the document says; bytes that are read to their end are those that are written of it. No condition. -/
import Derived.Test.YtnailnlpjakcbaaC6
import Derived.Test.YtnailnlpjakcbaaC7
import Derived.Test.YtnailnlpjakcbaaD4
import Derived.Test.YtnailnlpjakcbaaE4
import Derived.BigQuiet
import Derived.Deep.QuietTactic
namespace Go.Proofs.Ytnailnlpjakcbaa
open Go.ChangeShapes Go.WideShapes Go.ChangeAt Go.RowKit
open Go.ChangeMaps (open_string shut_string)
set_option linter.unusedVariables false

theorem Wr.grown {w w' : World} {B X : Nat} {ps : List (List UInt8)} (h : Wr w B ps) (hg : w.grownBy w' (some X)) (hX : X < B) : Wr w' B ps := by
  obtain ⟨p, h1, h2⟩ := h
  exact ⟨p, hb_grown h1 hg (by simp; omega), Chain.kept (fun k x hk hx => hb_grown hx hg (by simp; omega)) ps p h2⟩
theorem Rd.grown {w w' : World} {R X : Nat} {st : Option (List UInt8)} (h : Rd w R st) (hg : w.grownBy w' (some X)) (hX : R ≠ X) : Rd w' R st :=
  h.kept fun _ hx => hb_grown hx hg (by simp; omega)
theorem Rq.grown {w w' : World} {R X : Nat} {st : Option (List UInt8)} (h : Rq w R st) (hg : w.grownBy w' (some X)) (hX : R ≠ X) : Rq w' R st :=
  h.kept fun _ hx => hb_grown hx hg (by simp; omega)

/-- How it stands behind k calls: both readers have read the same, and the writer what was read. -/
structure RI (w0 : World) (B : Nat) (s : List UInt8) (k : Nat) (st : Option (List UInt8)) (ps : List (List UInt8)) (wr : World) : Prop where
  rd : Rd wr B st
  rq : Rq wr (B + 1) st
  wt : Wr wr (B + 2) ps
  bel : Below B w0 wr
  len : (text ps).length ≤ 2020 * k
  ne : ∀ c ∈ ps, c ≠ []
  inv : ∀ l, st = some l → s = text ps ++ l

/-- One call more: the reader, the document's reader, a new row, the writer. -/
theorem RI.next {w0 wr w1 w2 w3 : World} {B k : Nat} {s : List UInt8} {st st' : Option (List UInt8)} {ps : List (List UInt8)} {c : List UInt8} {o : Obj} (h : RI w0 B s k st ps wr)
    (hg1 : wr.grownBy w1 (some B)) (h1 : Rd w1 B st') (hg2 : w1.grownBy w2 (some (B + 1))) (h2 : Rq w2 (B + 1) st') (hg3 : (w2.alloc o).grownBy w3 (some (B + 2))) (h3 : Wr w3 (B + 2) (c :: ps))
    (hc : c.length ≤ 2020) (hne : c ≠ []) (hinv : ∀ l', st' = some l' → ∃ l, st = some l ∧ l = c ++ l') : RI w0 B s (k + 1) st' (c :: ps) w3 := by
  have z0 := h.wt.lt
  have z1 := hg1.size
  have z2 := hg2.size
  have b1 := h.bel.grown hg1 (by omega) (fun j hj => by cases hj; exact Nat.le_refl _)
  have b2 := b1.grown hg2 (by omega) (fun j hj => by cases hj; omega)
  have b3 := (b2.alloc (by omega) o).grown hg3 (by rw [World.size_alloc]; omega) (fun j hj => by cases hj; omega)
  refine ⟨?_, ?_, h3, b3, ?_, ?_, ?_⟩
  · exact ((h1.grown hg2 (by omega)).kept (fun _ hx => hb_alloc hx o)).grown hg3 (by omega)
  · exact (h2.kept (fun _ hx => hb_alloc hx o)).grown hg3 (by omega)
  · rw [text, List.length_append]
    have := h.len
    omega
  · intro d hd
    rcases List.mem_cons.mp hd with rfl | hd
    · exact hne
    · exact h.ne d hd
  · intro l' hl'
    obtain ⟨l, hl, e⟩ := hinv l' hl'
    rw [h.inv l hl, e, text, List.append_assoc]

theorem uv_ne (x : Nat) : Cx.uv x ≠ [] := by
  intro h
  have := congrArg List.length h
  rw [Cx.uv_len] at this
  simp at this
theorem inv_U (st : Option (List UInt8)) : ∀ l', (Cx.spU st).2 = some l' → ∃ l, st = some l ∧ l = Cx.uv (Cx.spU st).1 ++ l' := by
  intro l' h
  cases st with
  | none => cases h
  | some l =>
    by_cases hz : (Cx.getUv l).2 = 0
    · have e : Cx.spU (some l) = (0, none) := by
        show (if (Cx.getUv l).2 = 0 then (0, none) else ((Cx.getUv l).1, some (l.drop (Cx.getUv l).2))) = _
        rw [if_pos hz]
      rw [e] at h
      cases h
    · have e : Cx.spU (some l) = ((Cx.getUv l).1, some (l.drop (Cx.getUv l).2)) := by
        show (if (Cx.getUv l).2 = 0 then (0, none) else ((Cx.getUv l).1, some (l.drop (Cx.getUv l).2))) = _
        rw [if_neg hz]
      rw [e] at h ⊢
      obtain rfl := Option.some.inj h
      exact ⟨l, rfl, (Cx.getUv_back l hz).1⟩
theorem inv_T (st : Option (List UInt8)) : ∀ l', (Cx.spT st).2 = some l' → ∃ l, st = some l ∧ l = txt (str (Cx.spT st).1) ++ l' := by
  intro l' h
  have hu := inv_U st
  have e : Cx.spT st = match Cx.spU st with
    | (_, none) => ([], none)
    | (x, some l) => if l.length < x then ([], none) else (l.take x, some (l.drop x)) := rfl
  rw [e] at h ⊢
  generalize Cx.spU st = p at *
  obtain ⟨x, st2⟩ := p
  cases st2 with
  | none => cases h
  | some m =>
    by_cases hlt : m.length < x
    · have e2 : (if m.length < x then (([] : List UInt8), (none : Option (List UInt8))) else (m.take x, some (m.drop x))) = ([], none) := if_pos hlt
      simp only [e2] at h
      cases h
    · have e2 : (if m.length < x then (([] : List UInt8), (none : Option (List UInt8))) else (m.take x, some (m.drop x))) = (m.take x, some (m.drop x)) := if_neg hlt
      simp only [e2] at h ⊢
      obtain rfl := Option.some.inj h
      obtain ⟨l, hl, e3⟩ := hu m rfl
      refine ⟨l, hl, ?_⟩
      rw [e3, txt, str_size, str_list, List.length_take, Nat.min_eq_left (by omega), List.append_assoc, List.take_append_drop]
theorem spT_len (st : Option (List UInt8)) (n : Nat) (h : ∀ l, st = some l → l.length ≤ n) : (Cx.spT st).1.length ≤ n := by
  have hu := inv_U st
  have e : Cx.spT st = match Cx.spU st with
    | (_, none) => ([], none)
    | (x, some l) => if l.length < x then ([], none) else (l.take x, some (l.drop x)) := rfl
  rw [e]
  generalize Cx.spU st = p at *
  obtain ⟨x, st2⟩ := p
  cases st2 with
  | none => exact Nat.zero_le _
  | some m =>
    obtain ⟨l, hl, e3⟩ := hu m rfl
    have := h l hl
    have e4 : l.length = (Cx.uv x).length + m.length := by rw [e3, List.length_append]
    by_cases hlt : m.length < x
    · have e2 : (if m.length < x then (([] : List UInt8), (none : Option (List UInt8))) else (m.take x, some (m.drop x))) = ([], none) := if_pos hlt
      simp only [e2]
      exact Nat.zero_le _
    · have e2 : (if m.length < x then (([] : List UInt8), (none : Option (List UInt8))) else (m.take x, some (m.drop x))) = (m.take x, some (m.drop x)) := if_neg hlt
      simp only [e2, List.length_take]
      omega

theorem RI.drewN {w0 wr : World} {B k : Nat} {s : List UInt8} {st : Option (List UInt8)} {ps : List (List UInt8)} (h : RI w0 B s k st ps wr) (n : Nat) : RI w0 B s k st ps (wr.drewN n) :=
  ⟨h.rd.kept fun _ hx => hx, h.rq.kept fun _ hx => hx, by obtain ⟨p, h1, h2⟩ := h.wt; exact ⟨p, h1, Chain.kept (w := wr) (w' := wr.drewN n) (fun k x _ hx => hx) ps p h2⟩, below_drewN h.bel n, h.len, h.ne, h.inv⟩
theorem RI.rest {w0 wr : World} {B k : Nat} {s : List UInt8} {st : Option (List UInt8)} {ps : List (List UInt8)} (h : RI w0 B s k st ps wr) : ∀ l, st = some l → l.length ≤ s.length := by
  intro l hl
  rw [h.inv l hl, List.length_append]
  omega
theorem str_nil_eq (s : ByteArray) (h : s.data.toList = []) : s = ⟨#[]⟩ := by
  rw [← str_of s, h]
  rfl
def RL (w0 : World) (B n : Nat) (s : List UInt8) (i : Value) (wr : World) : Prop := ∃ k st ps, k ≤ n ∧ i = .int .i64 (k : Nat) ∧ RI w0 B s k st ps wr

set_option maxRecDepth 100000 in
set_option maxHeartbeats 2000000 in
theorem reads_go (s : ByteArray) (v : Value) (ks : List Int) (w : World) (hs : s.size ≤ 2000) (hl : ks.length ≤ 60)
    (q : Option Addr) (c : Nat) (hv : v = .slice q ks.length c) (hc : ∀ k x, (ks.map (Value.int .i64))[k]? = some x → ∃ a, q = some a ∧ w.cell? (a.add k) = some x) :
    Calls Try.prog 9 #[.string s, v] w fun e w' => e = .returned (.bool true) ∧ Below w.heap.size w w' := by
  subst hv
  have HC := Lib.hid hc
  clear hc
  have d1 : decide (2000 < (s.size : Int)) = false := by simp; omega
  have d3 : decide (60 < (ks.length : Int)) = false := by simp; omega
  have hsl : s.data.toList.length = s.size := by simp
  have HSL := Lib.hid hsl
  clear hsl
  go_enter Try.func9, Try.ntmps9
  go_wp2_with (go_at_call 33; refine (newReader_any _ _).mono ?_; rintro e w1 ⟨rfl, rfl⟩)
  go_loopw [31] (fun i wr => RL w w.heap.size ks.length s.data.toList i wr) (fun i _ => ks.length - (intOf i).toNat)
  case atStart =>
    have hst : str s.data.toList = s := str_of s
    have n1 := hb_new w (.cells #[.string s, .bool true] 76)
    have n2 := hb_new (w.alloc (.cells #[.string s, .bool true] 76)) (.cells #[.string s, .bool false] 62)
    have n3 := hb_new ((w.alloc (.cells #[.string s, .bool true] 76)).alloc (.cells #[.string s, .bool false] 62)) (.cells #[.pointer none] 47)
    simp only [World.size_alloc] at n2 n3
    refine ⟨0, some s.data.toList, [], Nat.zero_le _, rfl, ⟨?_, ?_⟩, ⟨?_, ?_⟩, ⟨_, n3, rfl⟩, ?_, by simp [text], by simp, fun l hl => by cases hl; rfl⟩
    · rw [hst]; exact hb_alloc (hb_alloc n1 _) _
    · rw [HSL.out]; unfold maxLen; omega
    · rw [hst]; exact hb_alloc n2 _
    · rw [HSL.out]; unfold maxLen; omega
    · exact ((below_alloc w _).alloc (by simp) _).alloc (by simp; omega) _
  case round =>
    obtain ⟨k, st, ps, hk, rfl, hI⟩ := hrel
    have HI := Lib.hid hI
    clear hI
    by_cases hlt : k < ks.length
    · have hdl : decide ((k : Int) < ks.length) = true := by simp; omega
      obtain ⟨a, rfl, h1⟩ := HC.out k (.int .i64 ks[k]) (by simp [hlt])
      have hcell : wr.cell? (a.add k) = some (.int .i64 ks[k]) := by
        rw [HI.out.bel.cell (block_lt_of_cell h1), h1]
      clear h1
      generalize ks[k] = K at *
      by_cases h0 : K = 0
      · subst h0
        go_wp2_with (first
          | (go_at_call 34; refine (rU_any _ st _ HI.out.rd).mono ?_; rintro e w1 ⟨rfl, h1, hg1⟩; have H1 := Lib.hid h1; clear h1; have HG1 := Lib.hid hg1; clear hg1)
          | (go_at_call 39; refine (qU_any _ st _ (HI.out.rq.grown HG1.out (by omega))).mono ?_; rintro e w2 ⟨rfl, h2, hg2⟩; have H2 := Lib.hid h2; clear h2; have HG2 := Lib.hid hg2; clear hg2)
          | (go_at_call 28; refine (wU_one (w.heap.size + 2) ps _ 1 (Cx.spU st).1 _ (((HI.out.wt.grown HG1.out (by omega)).grown HG2.out (by omega)).below (below_alloc _ _)) (by have := HI.out.len; omega) (spU_lt st) (hb_at (hb_new _ _) 0 rfl)).mono ?_; rintro e w3 ⟨rfl, h3, hg3⟩; have HN := Lib.hid (RI.next HI.out HG1.out H1.out HG2.out H2.out hg3 h3 (Nat.le_trans (uv_small _ (spU_lt st)) (by omega)) (uv_ne _) (inv_U st)); clear h3; have HG3 := Lib.hid hg3; clear hg3))
        have cq : w3.cell? ⟨w.heap.size + 1, 1, none⟩ = some (.bool (stBad (Cx.spU st).2)) := HN.out.rq.bad
        go_quiet ((go_at_call 38; exact Calls.quiet_of_same ((bad_any _ (Cx.spU st).2 _ (by exact HN.out.rd)).mono fun e w' ⟨h1, h2⟩ => ⟨h1, h2.symm⟩)))
        go_wp2
        go_roundw
        case rel => exact ⟨k + 1, _, _, by omega, by go_num, HN.out.drewN _⟩
        case measure => simp [intOf]; omega
      · have e0 : (K == 0) = false := by rw [beq_eq_false_iff_ne]; exact h0
        by_cases h1 : K = 1
        · have hz := Cx.zag_in _ (spU_lt st)
          subst h1
          go_wp2_with (first
            | (go_at_call 35; refine (rI_any _ st _ HI.out.rd).mono ?_; rintro e w1 ⟨rfl, h1, hg1⟩; have H1 := Lib.hid h1; clear h1; have HG1 := Lib.hid hg1; clear hg1)
            | (go_at_call 39; refine (qU_any _ st _ (HI.out.rq.grown HG1.out (by omega))).mono ?_; rintro e w2 ⟨rfl, h2, hg2⟩; have H2 := Lib.hid h2; clear h2; have HG2 := Lib.hid hg2; clear hg2)
            | (go_at_call 19; refine (refZag_any _ (spU_lt st) _).mono ?_; rintro e w4 ⟨rfl, rfl⟩)
            | (go_at_call 29; refine (wI_one (w.heap.size + 2) ps _ 1 (Cx.zag (Cx.spU st).1) _ (((HI.out.wt.grown HG1.out (by omega)).grown HG2.out (by omega)).below (below_alloc _ _)) (by have := HI.out.len; omega) hz (hb_at (hb_new _ _) 0 rfl)).mono ?_; rw [Cx.zig_zag]; rintro e w3 ⟨rfl, h3, hg3⟩; have HN := Lib.hid (RI.next HI.out HG1.out H1.out HG2.out H2.out hg3 h3 (Nat.le_trans (uv_small _ (spU_lt st)) (by omega)) (uv_ne _) (inv_U st)); clear h3; have HG3 := Lib.hid hg3; clear hg3))
          have cq : w3.cell? ⟨w.heap.size + 1, 1, none⟩ = some (.bool (stBad (Cx.spU st).2)) := HN.out.rq.bad
          go_quiet ((go_at_call 38; exact Calls.quiet_of_same ((bad_any _ (Cx.spU st).2 _ (by exact HN.out.rd)).mono fun e w' ⟨h1, h2⟩ => ⟨h1, h2.symm⟩)))
          go_wp2
          go_roundw
          case rel => exact ⟨k + 1, _, _, by omega, by go_num, HN.out.drewN _⟩
          case measure => simp [intOf]; omega
        · have e1 : (K == 1) = false := by rw [beq_eq_false_iff_ne]; exact h1
          have hst : ∀ l, st = some l → l.length ≤ 1000000 := fun l hl => by have := HI.out.rest l hl; have := HSL.out; omega
          have hsp := spT_len st 2000 (fun l hl => by have := HI.out.rest l hl; have := HSL.out; omega)
          have hss : (str (Cx.spT st).1).size ≤ 2000 := by rw [str_size]; exact hsp
          have HST := Lib.hid hst
          clear hst
          go_wp2_with (first
            | (go_at_call 36; refine (rT_any _ st HST.out _ HI.out.rd).mono ?_; rintro e w1 ⟨rfl, h1, hg1⟩; have H1 := Lib.hid h1; clear h1; have HG1 := Lib.hid hg1; clear hg1)
            | (go_at_call 40; refine (qT_any _ st HST.out _ (HI.out.rq.grown HG1.out (by omega))).mono ?_; rintro e w2 ⟨rfl, h2, hg2⟩; have H2 := Lib.hid h2; clear h2; have HG2 := Lib.hid hg2; clear hg2)
            | (go_at_call 30; refine (wT_one (w.heap.size + 2) ps _ 1 (str (Cx.spT st).1) _ (((HI.out.wt.grown HG1.out (by omega)).grown HG2.out (by omega)).below (below_alloc _ _)) (by have := HI.out.len; omega) (by omega) (hb_at (hb_new _ _) 0 rfl)).mono ?_; rintro e w3 ⟨rfl, h3, hg3⟩; have HN := Lib.hid (RI.next HI.out HG1.out H1.out HG2.out H2.out hg3 h3 (by rw [txt_len]; have := uv_small (str (Cx.spT st).1).size (by omega); omega) (by rw [txt]; intro h; exact uv_ne _ (List.append_eq_nil_iff.mp h).1) (inv_T st)); clear h3; have HG3 := Lib.hid hg3; clear hg3))
          have cq : w3.cell? ⟨w.heap.size + 1, 1, none⟩ = some (.bool (stBad (Cx.spT st).2)) := HN.out.rq.bad
          go_quiet ((go_at_call 38; exact Calls.quiet_of_same ((bad_any _ (Cx.spT st).2 _ (by exact HN.out.rd)).mono fun e w' ⟨h1, h2⟩ => ⟨h1, h2.symm⟩)))
          go_wp2
          go_roundw
          case rel => exact ⟨k + 1, _, _, by omega, by go_num, HN.out.drewN _⟩
          case measure => simp [intOf]; omega
    · have hdl : decide ((k : Int) < ks.length) = false := by simp; omega
      have cq1 := HI.out.rq.bad
      cases st with
      | none =>
        have cq : wr.cell? ⟨w.heap.size + 1, 1, none⟩ = some (.bool true) := cq1
        clear cq1
        go_wp2
        go_quiet ((go_at_call 37; exact Calls.quiet_of_same ((done_any _ none _ (by exact HI.out.rd)).mono fun e w' ⟨h1, h2⟩ => ⟨h1, h2.symm⟩)))
        go_wp2_with (first
          | (go_at_call 37; refine (done_any _ none _ (by exact HI.out.rd)).mono ?_; rintro e w4 ⟨rfl, rfl⟩)
          | (go_at_call 11; refine (alive_ok _).mono ?_; rintro e w9 ⟨rfl, hb⟩))
        go_ret
        exact ⟨rfl, (below_drewN HI.out.bel _).trans (hb.mono HI.out.bel.size)⟩
      | some l =>
        have cq : wr.cell? ⟨w.heap.size + 1, 1, none⟩ = some (.bool false) := cq1
        have cq0 : wr.cell? ⟨w.heap.size + 1, 0, none⟩ = some (.string (str l)) := hb_at HI.out.rq.1 0 rfl
        clear cq1
        cases l with
        | nil =>
          have HINV := Lib.hid (HI.out.inv [] rfl)
          have cq2 : wr.cell? ⟨w.heap.size + 1, 0, none⟩ = some (.string ⟨#[]⟩) := cq0
          clear cq0
          cases ps with
          | nil =>
            have HS0 : RowKit.Hid (s = ⟨#[]⟩) := Lib.hid (str_nil_eq s (by rw [HINV.out]; rfl))
            go_wp2
            go_quiet ((go_at_call 37; exact Calls.quiet_of_same ((done_any _ (some []) _ (by exact HI.out.rd)).mono fun e w' ⟨h1, h2⟩ => ⟨h1, h2.symm⟩)))
            go_wp2_with (first
              | (go_at_call 37; refine (done_any _ (some []) _ (by exact HI.out.rd)).mono ?_; rintro e w4 ⟨rfl, rfl⟩)
              | (go_at_call 32; refine (wString_empty _ _ (by exact (HI.out.drewN _).wt)).mono ?_; rw [← HS0.out]; rintro e w5 ⟨rfl, rfl⟩)
              | (go_at_call 11; refine (alive_ok _).mono ?_; rintro e w9 ⟨rfl, hb⟩))
            go_ret
            exact ⟨rfl, (below_drewN HI.out.bel _).trans (hb.mono HI.out.bel.size)⟩
          | cons d r =>
            have HS0 : RowKit.Hid (str (text (d :: r)) = s) := by
              have h := HINV.out
              rw [List.append_nil] at h
              rw [← h, str_of]
              exact Lib.hid rfl
            go_wp2
            go_quiet ((go_at_call 37; exact Calls.quiet_of_same ((done_any _ (some []) _ (by exact HI.out.rd)).mono fun e w' ⟨h1, h2⟩ => ⟨h1, h2.symm⟩)))
            go_wp2_with (first
              | (go_at_call 37; refine (done_any _ (some []) _ (by exact HI.out.rd)).mono ?_; rintro e w4 ⟨rfl, rfl⟩)
              | (go_at_call 32; refine (wString_some _ d r _ (by exact (HI.out.drewN _).wt) HI.out.ne (by have := HI.out.len; omega)).mono ?_; rw [HS0.out]; rintro e w5 ⟨rfl, hb5⟩)
              | (go_at_call 11; refine (alive_ok _).mono ?_; rintro e w9 ⟨rfl, hb⟩))
            go_ret
            have z5 := hb5.size
            have zB := HI.out.bel.size
            exact ⟨rfl, ((below_drewN HI.out.bel _).trans (hb5.mono zB)).trans (hb.mono (Nat.le_trans zB z5))⟩
        | cons b t =>
          have hne1 : (str (b :: t)).toList.isEmpty = false := by rw [ByteArray.toList_eq, str_list]; rfl
          have HRD : RowKit.Hid (Rd wr w.heap.size (some (b :: t))) := Lib.hid HI.out.rd
          generalize str (b :: t) = S at *
          go_wp2
          go_quiet ((go_at_call 37; exact Calls.quiet_of_same ((done_any _ (some (b :: t)) _ (by exact HRD.out)).mono fun e w' ⟨h1, h2⟩ => ⟨h1, h2.symm⟩)))
          go_wp2_with (first
            | (go_at_call 37; refine (done_any _ (some (b :: t)) _ (by exact HRD.out)).mono ?_; rintro e w4 ⟨rfl, rfl⟩)
            | (go_at_call 11; refine (alive_ok _).mono ?_; rintro e w9 ⟨rfl, hb⟩))
          go_ret
          exact ⟨rfl, (below_drewN HI.out.bel _).trans (hb.mono HI.out.bel.size)⟩

theorem reads_walk (s : ByteArray) (v : Value) (ks : List Int) (w : World) (hs : s.size ≤ maxLen) (hr : Reads w v (ks.map (Value.int .i64))) (hl : (∀ n ∈ ks, (Lit.int .i64 n).wf = true) ∧ ks.length ≤ maxLen) :
    Calls Try.prog 9 #[.string s, v] w fun e w' => e = .returned (.bool true) ∧ Below w.heap.size w w' := by
  obtain ⟨q, c, rfl, hc⟩ : ∃ q c, v = .slice q ks.length c ∧ ∀ k x, (ks.map (Value.int .i64))[k]? = some x → ∃ a, q = some a ∧ w.cell? (a.add k) = some x := by
    rcases hr with ⟨rfl, h⟩ | ⟨a, c, rfl, h⟩
    · obtain rfl : ks = [] := by simpa using h
      exact ⟨none, 0, rfl, fun k x hx => by simp at hx⟩
    · exact ⟨some a, c, by rw [List.length_map], fun k x hx => ⟨a, rfl, h k x hx⟩⟩
  have hl := hl.2
  unfold maxLen at hs hl
  by_cases h1 : 2000 < s.size
  · have d1 : decide (2000 < (s.size : Int)) = true := by simp; omega
    go_enter Try.func9, Try.ntmps9
    go_wp2_with (go_at_call 11; refine (alive_ok _).mono ?_; rintro e w9 ⟨rfl, hb⟩)
    go_ret
    exact ⟨rfl, hb⟩
  · have d1 : decide (2000 < (s.size : Int)) = false := by simp; omega
    by_cases h4 : 60 < ks.length
    · have d3 : decide (60 < (ks.length : Int)) = true := by simp; omega
      go_enter Try.func9, Try.ntmps9
      go_wp2_with (go_at_call 11; refine (alive_ok _).mono ?_; rintro e w9 ⟨rfl, hb⟩)
      go_ret
      exact ⟨rfl, hb⟩
    · exact reads_go s _ ks w (by omega) (by omega) q c rfl hc

theorem arg_ints {H : Type} {enc : TypeId × Value → H} {W : World} {base : Nat} {v : Value} {d : DataW H} {p : List MemPlace} (hval : Value.okWide Try.prog W .any base 59 v) (h : DataW.Trod enc Try.prog W 0 (fun _ => true) true 59 v d p) :
    ∃ l : List Int, Reads W v (l.map (Value.int .i64)) ∧ (∀ n ∈ l, (Lit.int .i64 n).wf = true) ∧ l.length ≤ maxLen :=
  arg_nums Try.underlying59 Try.underlying3 (by kernel_rfl) hval h

set_option maxRecDepth 100000 in
theorem codecReads_lifted (os : Os) (started : os.Started) (H : Type) (enc : TypeId × Value → H) :
    ReturnsInHanded {} Try.checked os 9 .any (Rows.codecReadsSpec.pre6 enc Try.prog Try.f9 Rows.codecReadsRow.domain false) (Rows.codecReadsSpec.post enc Try.prog Try.f9 false true false false) := by
  refine returnsInHanded_of_change (C := Try.checked) ownKn started (by kernel_rfl) Try.func9
    (ChangeSpec.witness6 (enc := enc) (C := Try.checked) false ⟨#[], #[.string ⟨#[]⟩, .slice none 0 0], []⟩ 8 (by kernel_rfl) (by kernel_rfl) (by kernel_rfl) (by kernel_rfl)) ?_
  intro W base args ds gs before hval0 hW hcnd _
  have hval : ∀ (j : Nat) t v, Try.f9.params[j]? = some t → args[j]? = some v → Value.okWide Try.prog W .any base t v := hval0
  have hW' := hW
  obtain ⟨p, q, hA0, hV, rfl, hfz, hnd⟩ := hW
  have hA : DataW.TrodAll enc Try.prog W 0 (fun _ => true) true Try.f9.params.toList args.toList ds p := hA0
  rw [Try.params9] at hA hval
  obtain ⟨v0, vs0, d0, ds0, p0, q0, hargs, rfl, rfl, h0, r0⟩ := trodAll_cons hA
  obtain ⟨v1, vs1, d1, ds1, p1, q1, rfl, rfl, rfl, h1, r1⟩ := trodAll_cons r0
  obtain ⟨rfl, rfl, rfl⟩ := trodAll_nil r1
  obtain rfl : args = #[v0, v1] := by cases args; simp_all
  obtain ⟨rfl, rfl⟩ := trodVars_none hV
  have lt0 : ∀ x ∈ p0, x.block < W.heap.size := by obtain ⟨m, hm⟩ := h0; exact DataW.trod_lt m _ _ _ hm
  have lt1 : ∀ x ∈ p1, x.block < W.heap.size := by obtain ⟨m, hm⟩ := h1; exact DataW.trod_lt m _ _ _ hm
  have k0 := h0
  obtain ⟨a0, rfl, rfl, rfl, b0⟩ := open_string Try.underlying9 (hval 0 9 v0 rfl rfl) h0
  have k1 := h1
  obtain ⟨a1, b1, c1⟩ := arg_ints (hval 1 59 v1 rfl rfl) h1
  clear hA0 hval0
  refine (reads_walk a0 v1 a1 W b0 b1 c1).mono fun e W' ⟨he, bel⟩ => ?_
  subst he
  exact ⟨_, rfl, _, _, _, [], _, [], hW', trodAll_mk1 (shut_bool Try.underlying4 _),
    (trodAll_cons_mk (Below.trod laidTry (by kernel_rfl) (of_decide_eq_true (by kernel_rfl)) k0 bel lt0) (trodAll_cons_mk (Below.trod laidTry (by kernel_rfl) (of_decide_eq_true (by kernel_rfl)) k1 bel lt1) trodAll_mk0)), rfl, bel.frame _, fun h => by cases h⟩

theorem codecReads_over : Rows.codecReadsRow.holds Try.pinned (OpenSpec.ofChange Rows.codecReadsSpec) :=
  OpenClaim.holds_of_wide 9 Try.f9 rfl rfl rfl rfl rfl rfl rfl ⟨rfl, rfl, rfl, rfl, rfl⟩ rfl rfl rfl rfl rfl (by kernel_rfl) Try.func9 (by kernel_rfl)
    (of_decide_eq_true (by kernel_rfl)) (by unfold Func.isWrapper; first | (rw [if_pos (by decide +kernel)]; kernel_rfl) | (rw [if_neg (by decide +kernel)]; exact ⟨rfl, rfl⟩))
    (fun os started H enc _ => codecReads_lifted os started H enc)

theorem codecReads_holds : Rows.CodecReadsSaid := codecReads_over
#print axioms codecReads_holds
end Go.Proofs.Ytnailnlpjakcbaa
