/- Texts in a row: Xd Xe Yc Yx. -/
import Derived.Test.YtmkjalnlldpdcaaGreatDoorZA25
import Derived.Test.YtmkjalnlldpdcaaGreatDoorZA24
import Derived.Test.YtmkjalnlldpdcaaGreatDoorZA11
import Derived.Test.YtmkjalnlldpdcaaGreatDoorTie
import Derived.ProofKit
import Derived.LaidMore
import Derived.OpenShut
import Derived.ShutString
import Derived.ChangeOld
import Derived.ChangeSlices
import Derived.ChangeSame
import Derived.Deep.Slices
import Derived.Deep.Fields
import Derived.Lib.SmallJoins
import Derived.Lib.LaidTab
import Derived.Lib.AppendIntMem
import Derived.Stop.Joined
/- Patterns and expressions are read from their tokens as they were, unless they lie too deep, or are applied to too many. -/
namespace Go.Proofs.YtmkjalnlldpdcaaGreatDoor
open Go.RowKit
set_option linter.unusedSimpArgs false
set_option linter.unusedVariables false
theorem qualP_back {Z : Prop} {E : Nat} {p : ByteArray} {ts : Ts} {q : List Tk} (h : ts.map Prod.fst = (if p.toList = [] then [] else [⟨2, p, 0⟩, sg sDot]) ++ q) (hd : p.toList = [] → isK 8 sDot q.tail = false) : Rds Z (qualP E ts) p q := by
  unfold qualP
  by_cases hp : p.toList = []
  · rw [if_pos hp] at h
    have h' : ts.map Prod.fst = q := by simpa using h
    have ht : ts.tail.map Prod.fst = q.tail := by rw [← h', List.map_tail]
    rw [isB_eq, ht, hd hp]
    obtain rfl := toList_nil hp
    exact Rds.ok h'
  · rw [if_neg hp] at h
    have hb : isB 8 sDot ts.tail = true := by rw [isB_eq, tail_map h]; exact isK_yes _ _ _ _
    rw [if_pos hb]
    refine Rds.bnd (take_back h) fun ts1 e1 => ?_
    exact Rds.bnd (key_back e1) fun ts2 e2 => Rds.ok e2
theorem con_back {Z : Prop} {E : Nat} {kind : Int} {one : Ts → Res Tm} {K : Tm → List Tk} {St : List Tk → Prop} (h1 : ∀ q, St (sg sComma :: q)) (h2 : ∀ q, St (sg sShut :: q)) {p n : ByteArray} {kids : List Tm} (hK : ∀ x ∈ kids, RdK Z one x (K x) St) :
    RdK Z (conP E kind p one) (.mk kind p n 0 kids) (⟨2, n, 0⟩ :: (if kids.length = 0 then [] else heldK (kids.map K))) (fun q => kids.length = 0 → isK 8 sOpen q = false) := by
  intro ts q ht hq
  unfold conP
  refine Rds.bnd (take_back ht) fun ts1 e1 => ?_
  exact Rds.bnd (held_back h1 h2 hK ts1 q e1 hq) fun ts2 e2 => Rds.ok e2
theorem qualCon_tail {p n : ByteArray} {K : Tm → List Tk} {kids : List Tm} {q : List Tk} (hq : kids.length = 0 → isK 8 sDot q = false) : isK 8 sDot ((⟨2, n, 0⟩ :: (if kids.length = 0 then [] else heldK (kids.map K)) ++ q : List Tk)).tail = false := by
  by_cases h0 : kids.length = 0
  · rw [if_pos h0]; exact hq h0
  · rw [if_neg h0]; exact isK_text (by decide)
theorem qualK_two (p n : ByteArray) (r : List Tk) (k : Int) : qualK k p n ++ r = (if p.toList = [] then [] else [⟨2, p, 0⟩, sg sDot]) ++ (⟨k, n, 0⟩ :: r) := by unfold qualK; simp
theorem qualK_kd (p n : ByteArray) (r : List Tk) : kdK (qualK 2 p n ++ r) = 2 := by unfold qualK; split <;> rfl
/-- What may stand behind a pattern. -/
def StP (q : List Tk) : Prop := isK 8 sOpen q = false ∧ isK 8 sDot q = false
theorem StP.comma (q : List Tk) : StP (sg sComma :: q) := ⟨isK_text (by decide), isK_text (by decide)⟩
theorem StP.shut (q : List Tk) : StP (sg sShut :: q) := ⟨isK_text (by decide), isK_text (by decide)⟩
theorem StP.arrow (q : List Tk) : StP (sg sArrow :: q) := ⟨isK_text (by decide), isK_text (by decide)⟩
theorem pat_head : ∀ (d : Nat) (x : Tm), patB d x = true → ∀ q, isK 8 sShut (toks d x ++ q) = false := by
  intro d
  cases d with
  | zero => intro x h; cases h
  | succ d =>
    intro x h q
    obtain ⟨k, p, n, N, kids⟩ := x
    simp only [patB] at h
    by_cases h1 : k = 11
    · subst h1
      have e : toks (d + 1) (.mk 11 p n N kids) = [sg sAny] := by simp [toks]
      rw [e]; exact isK_text (by decide)
    rw [if_neg h1] at h
    by_cases h2 : k = 12
    · subst h2
      have e : toks (d + 1) (.mk 12 p n N kids) = qualK 1 p n ++ (if kids.length = 0 then [] else heldK (kids.map (toks d))) := by simp [toks]
      rw [e]; unfold qualK; split <;> exact isK_kind (by decide)
    rw [if_neg h2] at h
    by_cases h3 : k = 13
    · subst h3
      have e : toks (d + 1) (.mk 13 p n N kids) = [⟨4, e0, N⟩] := by simp [toks]
      rw [e]; exact isK_kind (by decide)
    rw [if_neg h3] at h
    by_cases h4 : k = 14
    · subst h4
      have e : toks (d + 1) (.mk 14 p n N kids) = [⟨5, n, 0⟩] := by simp [toks]
      rw [e]; exact isK_kind (by decide)
    rw [if_neg h4] at h
    by_cases h5 : k = 15
    · subst h5
      have e : toks (d + 1) (.mk 15 p n N kids) = qualK 2 p n ++ (if kids.length = 0 then [] else heldK (kids.map (toks d))) := by simp [toks]
      rw [e]; unfold qualK; split <;> exact isK_kind (by decide)
    rw [if_neg h5] at h
    by_cases h6 : k = 16
    · subst h6
      have e : toks (d + 1) (.mk 16 p n N kids) = heldK (kids.map (toks d)) := by simp [toks]
      rw [e]; exact isK_text (by decide)
    rw [if_neg h6] at h
    cases h
theorem pat_back (Z : Prop) (E : Nat) : ∀ (d : Nat) (x : Tm) (g : Nat), patB d x = true → (Z ∨ d ≤ g) → RdK Z (patP E g) x (toks d x) StP := by
  intro d
  induction d with
  | zero => intro x g h; cases h
  | succ d ih =>
    intro x g h hz ts q ht hq
    cases g with
    | zero =>
      unfold patP
      rcases hz with hz | hz
      · exact Rds.die hz
      · omega
    | succ g =>
      have H : ∀ y, patB d y = true → RdK Z (patP E g) y (toks d y) StP := fun y hy => ih y g hy (hz.imp id (by omega))
      obtain ⟨k, p, n, N, kids⟩ := x
      simp only [patB] at h
      unfold patP
      by_cases h1 : k = 11
      · subst h1
        simp only [if_true, Bool.and_eq_true] at h
        obtain ⟨rfl, rfl, rfl⟩ := bare_eq h.1
        obtain rfl := len0 h.2
        have e : toks (d + 1) (.mk 11 e0 e0 0 []) = [sg sAny] := by simp [toks]
        rw [e] at ht
        have hk : kd ts = 8 := by rw [kd_eq, ht]; rfl
        rw [if_neg (by rw [hk]; decide), if_neg (by rw [hk]; decide), if_neg (by rw [hk]; decide), if_neg (by rw [hk]; decide), isB_eq, ht, show ([sg sAny] ++ q : List Tk) = sg sAny :: q from rfl, isK_yes, if_pos rfl]
        exact Rds.ok (tail_map ht)
      rw [if_neg h1] at h
      by_cases h2 : k = 12
      · subst h2
        simp only [if_true, Bool.and_eq_true] at h
        obtain ⟨rfl, rfl, hr⟩ := named_eq h.1
        obtain rfl := len0 h.2
        have e : toks (d + 1) (.mk 12 e0 n 0 []) = [⟨1, n, 0⟩] := by simp [toks]; exact qualK_plain rfl
        rw [e] at ht
        have hk : kd ts = 1 := by rw [kd_eq, ht]; rfl
        rw [if_pos hk]
        exact Rds.bnd (take_back ht) fun ts1 e1 => Rds.ok e1
      rw [if_neg h2] at h
      by_cases h3 : k = 13
      · subst h3
        simp only [if_true, Bool.and_eq_true] at h
        obtain ⟨rfl, rfl, hr⟩ := num_eq h.1
        obtain rfl := len0 h.2
        have e : toks (d + 1) (.mk 13 e0 e0 N []) = [⟨4, e0, N⟩] := by simp [toks]
        rw [e] at ht
        have hk : kd ts = 4 := by rw [kd_eq, ht]; rfl
        have hn : (nx 0 ts).1.n = N := by rw [nx_map ht]
        rw [if_neg (by rw [hk]; decide), if_pos hk, hn]
        exact Rds.bnd (take_back ht) fun ts1 e1 => Rds.ok e1
      rw [if_neg h3] at h
      by_cases h4 : k = 14
      · subst h4
        simp only [if_true, Bool.and_eq_true] at h
        obtain ⟨rfl, rfl, hr⟩ := named_eq h.1
        obtain rfl := len0 h.2
        have e : toks (d + 1) (.mk 14 e0 n 0 []) = [⟨5, n, 0⟩] := by simp [toks]
        rw [e] at ht
        have hk : kd ts = 5 := by rw [kd_eq, ht]; rfl
        rw [if_neg (by rw [hk]; decide), if_neg (by rw [hk]; decide), if_pos hk]
        exact Rds.bnd (take_back ht) fun ts1 e1 => Rds.ok e1
      rw [if_neg h4] at h
      by_cases h5 : k = 15
      · subst h5
        simp only [if_true, Bool.and_eq_true] at h
        obtain ⟨rfl, hr⟩ := qual_eq h.1
        have hall := List.all_eq_true.1 h.2
        have e : toks (d + 1) (.mk 15 p n 0 kids) = qualK 2 p n ++ (if kids.length = 0 then [] else heldK (kids.map (toks d))) := by simp [toks]
        rw [e, List.append_assoc] at ht
        have hk : kd ts = 2 := by rw [kd_eq, ht, qualK_kd]
        rw [if_neg (by rw [hk]; decide), if_neg (by rw [hk]; decide), if_neg (by rw [hk]; decide), if_pos hk]
        rw [qualK_two] at ht
        refine Rds.bnd (qualP_back ht fun _ => qualCon_tail (p := p) fun _ => hq.2) fun ts1 e1 => ?_
        exact con_back (K := toks d) StP.comma StP.shut (fun y hy => H y (hall y hy)) ts1 q e1 fun _ => hq.1
      rw [if_neg h5] at h
      by_cases h6 : k = 16
      · subst h6
        rw [if_pos rfl] at h
        unfold tupB at h
        simp only [Bool.and_eq_true] at h
        obtain ⟨rfl, rfl, rfl⟩ := bare_eq h.1
        have hall := List.all_eq_true.1 h.2.2
        have hne : kids.length ≠ 1 := by simpa using h.2.1
        have e : toks (d + 1) (.mk 16 e0 e0 0 kids) = heldK (kids.map (toks d)) := by simp [toks]
        rw [e] at ht
        have hk : kd ts = 8 := by rw [kd_eq, ht]; rfl
        have ha : isB 8 sAny ts = false := by rw [isB_eq, ht]; exact isK_text (by decide)
        rw [if_neg (by rw [hk]; decide), if_neg (by rw [hk]; decide), if_neg (by rw [hk]; decide), if_neg (by rw [hk]; decide), ha, ← shutT_tuple hne]
        exact tuple_back (K := toks d) StP.comma StP.shut (fun y hy => H y (hall y hy)) (fun y hy => pat_head d y (hall y hy)) ts q ht trivial
      rw [if_neg h6] at h
      cases h
/-- Expressions, applied to at most so many. -/
def appPL (E L : Nat) (atom : Ts → Res Tm) (ts : Ts) : Res Tm := bnd (atom ts) fun t ts => appF E atom L t ts
def exprPL (E L : Nat) : Nat → Ts → Res Tm
  | 0, ts => die E ts 9
  | g + 1, ts =>
    if isB 7 kFun ts then funP E (exprPL E L g) ts.tail
    else if isB 7 kLet ts then letP E (exprPL E L g) (typP E g) ts.tail
    else if isB 7 kMatch ts then matP E (patP E g) (exprPL E L g) ts.tail
    else appPL E L (atomP E (exprPL E L g) (typP E g)) ts
def begK (q : List Tk) : Bool := decide (kdK q = 4) || decide (kdK q = 5) || decide (kdK q = 1) || decide (kdK q = 2) || isK 8 sOpen q
theorem begB_eq (ts : Ts) : begB ts = begK (ts.map Prod.fst) := by unfold begB begK; rw [kd_eq, isB_eq]
/-- What may stand behind an expression. -/
def StE (q : List Tk) : Prop := begK q = false ∧ isK 8 sDot q = false
theorem StE.sign {b : ByteArray} {q : List Tk} (h1 : ¬ b = sOpen) (h2 : ¬ b = sDot) : StE (sg b :: q) := ⟨by simp [begK, kdK, isK, txK, h1], isK_text h2⟩
theorem StE.word {b : ByteArray} {q : List Tk} : StE (kw b :: q) := ⟨by simp [begK, kdK, isK], isK_kind (by decide)⟩
theorem StE.comma (q : List Tk) : StE (sg sComma :: q) := StE.sign (by decide) (by decide)
theorem StE.shut (q : List Tk) : StE (sg sShut :: q) := StE.sign (by decide) (by decide)
theorem StE.open {q : List Tk} (h : StE q) : isK 8 sOpen q = false := by
  have := h.1
  unfold begK at this
  simp only [Bool.or_eq_false_iff] at this
  exact this.2
theorem beg_noShut {q : List Tk} (h : begK q = true) : isK 8 sShut q = false := by
  unfold begK at h
  simp only [Bool.or_eq_true, decide_eq_true_eq] at h
  unfold isK at h ⊢
  rcases h with (((h | h) | h) | h) | h
  · simp [h]
  · simp [h]
  · simp [h]
  · simp [h]
  · simp only [Bool.and_eq_true, decide_eq_true_eq] at h
    simp [h.2]
theorem beg_kd {q : List Tk} (h : begK q = true) (b : ByteArray) : isK 7 b q = false := by
  unfold begK at h
  simp only [Bool.or_eq_true, decide_eq_true_eq] at h
  unfold isK at h ⊢
  rcases h with (((h | h) | h) | h) | h
  · simp [h]
  · simp [h]
  · simp [h]
  · simp [h]
  · simp only [Bool.and_eq_true, decide_eq_true_eq] at h
    simp [h.1]
theorem beg_1 (s : ByteArray) (n : Int) (q : List Tk) (k : Int) (h : k = 1 ∨ k = 2 ∨ k = 4 ∨ k = 5) : begK (⟨k, s, n⟩ :: q) = true := by rcases h with rfl | rfl | rfl | rfl <;> simp [begK, kdK]
theorem beg_open (q : List Tk) : begK (sg sOpen :: q) = true := by simp [begK, isK, kdK, txK]
theorem zip_e1 {f9 f13 : Tm → Bool} {kids : List Tm} (h : zipB f9 f13 [34, 34] kids = true) : ∃ a c, kids = [a, c] ∧ f13 a = true ∧ f13 c = true := by
  match kids with
  | [] => simp [zipB] at h
  | [x] => simp [zipB] at h
  | [x, y] => simp [zipB, byF] at h; exact ⟨x, y, rfl, h.1, h.2⟩
  | x :: y :: z :: r => simp [zipB] at h
theorem zip_e3 {f9 f13 : Tm → Bool} {kids : List Tm} (h : zipB f9 f13 [34, 34, 28] kids = true) : ∃ a c t, kids = [a, c, t] ∧ f13 a = true ∧ f13 c = true ∧ f9 t = true := by
  match kids with
  | [] => simp [zipB] at h
  | [x] => simp [zipB] at h
  | [x, y] => simp [zipB] at h
  | [x, y, z] => simp [zipB, byF] at h; exact ⟨x, y, z, rfl, h.1, h.2.1, h.2.2⟩
  | x :: y :: z :: u :: r => simp [zipB] at h
/-- An expression that is no function, let or match begins as an atom. -/
theorem beg_head : ∀ (d : Nat) (x : Tm), exprB d x = true → (kdM x ≠ 26 ∧ kdM x ≠ 28 ∧ kdM x ≠ 29) → ∀ q, begK (toks d x ++ q) = true := by
  intro d
  induction d with
  | zero => intro x h; cases h
  | succ d ih =>
    intro x h hx q
    obtain ⟨k, p, n, N, kids⟩ := x
    simp only [kdM] at hx
    obtain ⟨hx1, hx2, hx3⟩ := hx
    simp only [exprB] at h
    by_cases h1 : k = 21
    · subst h1
      have e : toks (d + 1) (.mk 21 p n N kids) = qualK 1 p n ++ (if kids.length = 0 then [] else heldK (kids.map (toks d))) := by simp [toks]
      rw [e]; unfold qualK; split
      · exact beg_1 _ _ _ _ (by omega)
      · exact beg_1 _ _ _ _ (by omega)
    rw [if_neg h1] at h
    by_cases h2 : k = 22
    · subst h2
      have e : toks (d + 1) (.mk 22 p n N kids) = [⟨4, e0, N⟩] := by simp [toks]
      rw [e]; exact beg_1 _ _ _ _ (by omega)
    rw [if_neg h2] at h
    by_cases h3 : k = 23
    · subst h3
      have e : toks (d + 1) (.mk 23 p n N kids) = [⟨5, n, 0⟩] := by simp [toks]
      rw [e]; exact beg_1 _ _ _ _ (by omega)
    rw [if_neg h3] at h
    by_cases h4 : k = 24
    · subst h4
      have e : toks (d + 1) (.mk 24 p n N kids) = qualK 2 p n ++ (if kids.length = 0 then [] else heldK (kids.map (toks d))) := by simp [toks]
      rw [e]; unfold qualK; split
      · exact beg_1 _ _ _ _ (by omega)
      · exact beg_1 _ _ _ _ (by omega)
    rw [if_neg h4] at h
    by_cases h5 : k = 25
    · subst h5
      have e : toks (d + 1) (.mk 25 p n N kids) = heldK (kids.map (toks d)) := by simp [toks]
      rw [e]; exact beg_open _
    rw [if_neg h5, if_neg hx1] at h
    by_cases h7 : k = 27
    · subst h7
      simp only [if_true, Bool.and_eq_true] at h
      obtain ⟨A, C, rfl, hA, hC⟩ := zip_e1 h.2
      have e : toks (d + 1) (.mk 27 p n N [A, C]) = withinK (openM A) (toks d A) ++ withinK (openM C || kdM C == 27) (toks d C) := by simp [toks, cmpK]
      rw [e]
      cases ho : openM A with
      | true => exact beg_open _
      | false =>
        rw [List.append_assoc]
        refine ih A hA ?_ _
        obtain ⟨ka, pa, na, Na, ka'⟩ := A
        simp only [openM, Bool.or_eq_false_iff, beq_eq_false_iff_ne] at ho
        exact ⟨ho.1.1.2, ho.1.2, ho.2⟩
    rw [if_neg h7, if_neg hx2, if_neg hx3] at h
    by_cases h8 : k = 30
    · subst h8
      simp only [if_true, Bool.and_eq_true] at h
      obtain ⟨A, C, rfl, hA, hC⟩ := zip_et h.2
      have e : toks (d + 1) (.mk 30 p n N [A, C]) = sg sOpen :: (toks d A ++ (annK [toks d C] ++ [sg sShut])) := by simp [toks, cmpK]
      rw [e]; exact beg_open _
    rw [if_neg h8] at h
    cases h
theorem ex_head (d : Nat) (x : Tm) (h : exprB d x = true) (q : List Tk) : isK 8 sShut (toks d x ++ q) = false := by
  by_cases hx : kdM x ≠ 26 ∧ kdM x ≠ 28 ∧ kdM x ≠ 29
  · exact beg_noShut (beg_head d x h hx q)
  · cases d with
    | zero => cases h
    | succ d =>
      obtain ⟨k, p, n, N, kids⟩ := x
      simp only [kdM] at hx
      simp only [exprB] at h
      by_cases h1 : k = 26
      · subst h1
        simp only [show ¬ (26 : Int) = 21 by decide, show ¬ (26 : Int) = 22 by decide, show ¬ (26 : Int) = 23 by decide, show ¬ (26 : Int) = 24 by decide, show ¬ (26 : Int) = 25 by decide, if_false, if_true, Bool.and_eq_true] at h
        obtain ⟨A, rfl, hA⟩ := zip_e h.2
        have e : toks (d + 1) (.mk 26 p n N [A]) = kw kFun :: ⟨1, n, 0⟩ :: sg sArrow :: toks d A := by simp [toks, cmpK]
        rw [e]; exact isK_kind (by decide)
      by_cases h2 : k = 28
      · subst h2
        simp only [show ¬ (28 : Int) = 21 by decide, show ¬ (28 : Int) = 22 by decide, show ¬ (28 : Int) = 23 by decide, show ¬ (28 : Int) = 24 by decide, show ¬ (28 : Int) = 25 by decide, show ¬ (28 : Int) = 26 by decide, show ¬ (28 : Int) = 27 by decide, if_false, if_true] at h
        unfold letB at h
        simp only [Bool.and_eq_true, Bool.or_eq_true] at h
        have e : ∃ r, toks (d + 1) (.mk 28 p n N kids) = kw kLet :: r := by
          rcases h.2 with h2 | h2
          · obtain ⟨A, C, rfl, _⟩ := zip_e1 h2; exact ⟨_, by simp [toks, cmpK]; rfl⟩
          · obtain ⟨A, C, T, rfl, _⟩ := zip_e3 h2; exact ⟨_, by simp [toks, cmpK]; rfl⟩
        obtain ⟨r, e⟩ := e
        rw [e]; exact isK_kind (by decide)
      by_cases h3 : k = 29
      · subst h3
        simp only [show ¬ (29 : Int) = 21 by decide, show ¬ (29 : Int) = 22 by decide, show ¬ (29 : Int) = 23 by decide, show ¬ (29 : Int) = 24 by decide, show ¬ (29 : Int) = 25 by decide, show ¬ (29 : Int) = 26 by decide, show ¬ (29 : Int) = 27 by decide, show ¬ (29 : Int) = 28 by decide, if_false, if_true] at h
        unfold matchB at h
        simp only [Bool.and_eq_true, decide_eq_true_eq] at h
        match kids, h with
        | A :: r, h =>
          have e : ∃ r', toks (d + 1) (.mk 29 p n N (A :: r)) = kw kMatch :: r' := ⟨_, by simp [toks, cmpK]; rfl⟩
          obtain ⟨r', e⟩ := e
          rw [e]; exact isK_kind (by decide)
      exact absurd ⟨h1, h2, h3⟩ hx
end Go.Proofs.YtmkjalnlldpdcaaGreatDoor
/- Expressions are read from their tokens as they were, unless they lie too deep, or are applied to too many. -/
namespace Go.Proofs.YtmkjalnlldpdcaaGreatDoor
open Go.RowKit
set_option linter.unusedSimpArgs false
set_option linter.unusedVariables false
/-- A tuple of expressions; one in parentheses. -/
theorem exTuple_back {Z : Prop} {E : Nat} {one typ : Ts → Res Tm} {d : Nat} {kids : List Tm} (H : ∀ y ∈ kids, RdK Z one y (toks d y) StE) (hs : ∀ y ∈ kids, exprB d y = true) :
    RdK Z (atomP E one typ) (shutT 25 kids) (heldK (kids.map (toks d))) (fun _ => True) := by
  intro ts q ht _
  have hk : kd ts = 8 := by rw [kd_eq, ht]; rfl
  unfold atomP
  rw [if_neg (by rw [hk]; decide), if_neg (by rw [hk]; decide), if_neg (by rw [hk]; decide), if_neg (by rw [hk]; decide)]
  have h' : ts.map Prod.fst = sg sOpen :: (eachK (sg sComma) (kids.map (toks d)) ++ (sg sShut :: q)) := by rw [ht]; simp [heldK]
  refine Rds.bnd (open_back (K := toks d) StE.comma H (fun y hy => ex_head d y (hs y hy)) h' (StE.shut q) (no_comma q) fun _ => isK_yes _ _ _ _) fun ts1 e1 => ?_
  have hc : isB 8 sColon ts1 = false := by rw [isB_eq, e1]; exact isK_text (by decide)
  show Rds Z (if kids.length = 1 ∧ isB 8 sColon ts1 = true then _ else _) _ _
  rw [if_neg (by rw [hc]; simp)]
  exact shut_back e1
theorem exHeld_back {Z : Prop} {E : Nat} {one typ : Ts → Res Tm} {d : Nat} {x : Tm} (H : RdK Z one x (toks d x) StE) (h : exprB d x = true) :
    RdK Z (atomP E one typ) x (sg sOpen :: (toks d x ++ [sg sShut])) (fun _ => True) := by
  have := exTuple_back (Z := Z) (E := E) (one := one) (typ := typ) (d := d) (kids := [x]) (fun y hy => by cases List.mem_singleton.1 hy; exact H) (fun y hy => by cases List.mem_singleton.1 hy; exact h)
  simpa [heldK, eachK, shutT] using this
/-- An atom is read. -/
theorem atom_back {Z : Prop} {E : Nat} {one typ : Ts → Res Tm} {d : Nat} (H : ∀ y, exprB d y = true → RdK Z one y (toks d y) StE) (HT : ∀ y, typeB d y = true → RdK Z typ y (toks d y) StT) {x : Tm} (h : exprB (d + 1) x = true)
    (hx : kdM x ≠ 26 ∧ kdM x ≠ 27 ∧ kdM x ≠ 28 ∧ kdM x ≠ 29) : RdK Z (atomP E one typ) x (toks (d + 1) x) (fun q => openM x = true → isK 8 sOpen q = false ∧ isK 8 sDot q = false) := by
  obtain ⟨k, p, n, N, kids⟩ := x
  simp only [kdM] at hx
  obtain ⟨hx6, hx7, hx8, hx9⟩ := hx
  simp only [exprB] at h
  intro ts q ht hq
  by_cases h1 : k = 21
  · subst h1
    simp only [if_true, Bool.and_eq_true] at h
    obtain ⟨rfl, hr⟩ := qual_eq h.1
    obtain rfl := len0 h.2
    have e : toks (d + 1) (.mk 21 p n 0 []) = qualK 1 p n := by simp [toks]
    rw [e] at ht
    have HV : ∀ ts1, ts1.map Prod.fst = ⟨1, n, 0⟩ :: q → Rds Z (varP E p ts1) (.mk 21 p n 0 []) q := fun ts1 e1 => by
      unfold varP
      exact Rds.bnd (take_back e1) fun ts2 e2 => Rds.ok e2
    by_cases hp : p.toList = []
    · obtain rfl := toList_nil hp
      rw [qualK_plain rfl] at ht
      have hk : kd ts = 1 := by rw [kd_eq, ht]; rfl
      unfold atomP
      rw [if_neg (by rw [hk]; decide), if_neg (by rw [hk]; decide), if_neg (by rw [hk]; decide), if_pos hk]
      exact HV ts ht
    · have hk : kd ts = 2 := by rw [kd_eq, ht]; unfold qualK; rw [if_neg hp]; rfl
      have ht2 : ts.map Prod.fst = (if p.toList = [] then [] else [⟨2, p, 0⟩, sg sDot]) ++ (⟨1, n, 0⟩ :: q) := by rw [ht]; unfold qualK; simp
      unfold atomP
      rw [if_neg (by rw [hk]; decide), if_neg (by rw [hk]; decide), if_pos hk]
      refine Rds.bnd (qualP_back ht2 fun h => absurd h hp) fun ts1 e1 => ?_
      have hk1 : kd ts1 = 1 := by rw [kd_eq, e1]; rfl
      show Rds Z (if kd ts1 = 2 then _ else _) _ _
      rw [if_neg (by rw [hk1]; decide)]
      exact HV ts1 e1
  rw [if_neg h1] at h
  by_cases h2 : k = 22
  · subst h2
    simp only [if_true, Bool.and_eq_true] at h
    obtain ⟨rfl, rfl, hr⟩ := num_eq h.1
    obtain rfl := len0 h.2
    have e : toks (d + 1) (.mk 22 e0 e0 N []) = [⟨4, e0, N⟩] := by simp [toks]
    rw [e] at ht
    have hk : kd ts = 4 := by rw [kd_eq, ht]; rfl
    have hn : (nx 0 ts).1.n = N := by rw [nx_map ht]
    unfold atomP
    rw [if_pos hk, hn]
    exact Rds.bnd (take_back ht) fun ts1 e1 => Rds.ok e1
  rw [if_neg h2] at h
  by_cases h3 : k = 23
  · subst h3
    simp only [if_true, Bool.and_eq_true] at h
    obtain ⟨rfl, rfl, hr⟩ := named_eq h.1
    obtain rfl := len0 h.2
    have e : toks (d + 1) (.mk 23 e0 n 0 []) = [⟨5, n, 0⟩] := by simp [toks]
    rw [e] at ht
    have hk : kd ts = 5 := by rw [kd_eq, ht]; rfl
    unfold atomP
    rw [if_neg (by rw [hk]; decide), if_pos hk]
    exact Rds.bnd (take_back ht) fun ts1 e1 => Rds.ok e1
  rw [if_neg h3] at h
  by_cases h4 : k = 24
  · subst h4
    simp only [if_true, Bool.and_eq_true] at h
    obtain ⟨rfl, hr⟩ := qual_eq h.1
    have hall := List.all_eq_true.1 h.2
    have e : toks (d + 1) (.mk 24 p n 0 kids) = qualK 2 p n ++ (if kids.length = 0 then [] else heldK (kids.map (toks d))) := by simp [toks]
    have ho : kids.length = 0 → openM (.mk 24 p n 0 kids) = true := fun h0 => by simp [openM, h0]
    rw [e, List.append_assoc] at ht
    have hk : kd ts = 2 := by rw [kd_eq, ht, qualK_kd]
    unfold atomP
    rw [if_neg (by rw [hk]; decide), if_neg (by rw [hk]; decide), if_pos hk]
    rw [qualK_two] at ht
    refine Rds.bnd (qualP_back ht fun _ => qualCon_tail (p := p) fun h0 => (hq (ho h0)).2) fun ts1 e1 => ?_
    have hk1 : kd ts1 = 2 := by rw [kd_eq, e1]; rfl
    show Rds Z (if kd ts1 = 2 then _ else _) _ _
    rw [if_pos hk1]
    exact con_back (K := toks d) StE.comma StE.shut (fun y hy => H y (hall y hy)) ts1 q e1 fun h0 => (hq (ho h0)).1
  rw [if_neg h4] at h
  by_cases h5 : k = 25
  · subst h5
    rw [if_pos rfl] at h
    unfold tupB at h
    simp only [Bool.and_eq_true] at h
    obtain ⟨rfl, rfl, rfl⟩ := bare_eq h.1
    have hall := List.all_eq_true.1 h.2.2
    have hne : kids.length ≠ 1 := by simpa using h.2.1
    have e : toks (d + 1) (.mk 25 e0 e0 0 kids) = heldK (kids.map (toks d)) := by simp [toks]
    rw [e] at ht
    rw [← shutT_tuple hne]
    exact exTuple_back (fun y hy => H y (hall y hy)) hall ts q ht trivial
  rw [if_neg h5, if_neg hx6, if_neg hx7, if_neg hx8, if_neg hx9] at h
  by_cases h8 : k = 30
  · subst h8
    simp only [if_true, Bool.and_eq_true] at h
    obtain ⟨rfl, rfl, rfl⟩ := bare_eq h.1
    obtain ⟨A, C, rfl, hA, hC⟩ := zip_et h.2
    have e : toks (d + 1) (.mk 30 e0 e0 0 [A, C]) = sg sOpen :: (toks d A ++ (sg sColon :: (toks d C ++ [sg sShut]))) := by simp [toks, cmpK, annK]
    rw [e] at ht
    have hk : kd ts = 8 := by rw [kd_eq, ht]; rfl
    unfold atomP
    rw [if_neg (by rw [hk]; decide), if_neg (by rw [hk]; decide), if_neg (by rw [hk]; decide), if_neg (by rw [hk]; decide)]
    have h' : ts.map Prod.fst = sg sOpen :: (eachK (sg sComma) ([A].map (toks d)) ++ (sg sColon :: (toks d C ++ (sg sShut :: q)))) := by rw [ht]; simp [eachK]
    refine Rds.bnd (open_back (K := toks d) StE.comma (fun y hy => by cases List.mem_singleton.1 hy; exact H A hA) (fun y hy => by cases List.mem_singleton.1 hy; exact ex_head d A hA) h' (StE.sign (by decide) (by decide)) (isK_text (by decide)) fun h => by cases h) fun ts1 e1 => ?_
    have hc : isB 8 sColon ts1 = true := by rw [isB_eq, e1]; exact isK_yes _ _ _ _
    show Rds Z (if [A].length = 1 ∧ isB 8 sColon ts1 = true then _ else _) _ _
    rw [if_pos ⟨rfl, hc⟩]
    refine Rds.bnd (a := [C]) (q := sg sShut :: q) ?_ fun ts2 e2 => ?_
    · unfold annP
      rw [hc, if_pos rfl]
      exact Rds.bnd (HT C hC _ _ (tail_map e1) (StT.shut q)) fun ts2 e2 => Rds.ok e2
    · exact shut_back (kind := 25) (kids := [.mk 30 e0 e0 0 ([A] ++ [C])]) e2
  rw [if_neg h8] at h
  cases h
/-- What a row of applications comes to, once so many are read. -/
def Sp (Z : Prop) (E L : Nat) (atom : Ts → Res Tm) (m : Nat) (x : Tm) (ks : List Tk) : Prop := ∀ ts q, ts.map Prod.fst = ks ++ q →
  (∃ ts', ts'.map Prod.fst = q ∧ appPL E L atom ts = appF E atom (L - m) x ts' ∧ m ≤ L) ∨ (Z ∧ ∃ p, appPL E L atom ts = .error (p, 9))
theorem Sp.atom {Z : Prop} {E L : Nat} {atom : Ts → Res Tm} {x : Tm} {ks : List Tk} (h : RdK Z atom x ks (fun _ => True)) : Sp Z E L atom 0 x ks := by
  intro ts q ht
  unfold appPL
  rcases h ts q ht trivial with ⟨ts', e, h2⟩ | ⟨hz, e, h2⟩
  · rw [e]; exact .inl ⟨ts', h2, rfl, Nat.zero_le _⟩
  · rw [h2]; exact .inr ⟨hz, e, rfl⟩
theorem appF_zero (E : Nat) (atom : Ts → Res Tm) (t : Tm) (ts : Ts) : appF E atom 0 t ts = if begB ts then die E ts 9 else .ok (t, ts) := rfl
theorem appF_succ (E : Nat) (atom : Ts → Res Tm) (k : Nat) (t : Tm) (ts : Ts) : appF E atom (k + 1) t ts = if begB ts then bnd (atom ts) fun a ts => appF E atom k (.mk 27 e0 e0 0 [t, a]) ts else .ok (t, ts) := rfl
theorem Sp.next {Z : Prop} {E L m : Nat} {atom : Ts → Res Tm} {x y : Tm} {ks k2 : List Tk} (h : Sp Z E L atom m x ks) (h2 : RdK Z atom y k2 (fun _ => True)) (hb : ∀ q, begK (k2 ++ q) = true) (hL : Z ∨ m < L) : Sp Z E L atom (m + 1) (.mk 27 e0 e0 0 [x, y]) (ks ++ k2) := by
  intro ts q ht
  rw [List.append_assoc] at ht
  rcases h ts _ ht with ⟨ts1, e1, e2, hm⟩ | h
  · rw [e2]
    have hbt : begB ts1 = true := by rw [begB_eq, e1]; exact hb q
    by_cases hml : m < L
    · obtain ⟨j, hj⟩ : ∃ j, L - m = j + 1 := ⟨L - m - 1, by omega⟩
      rw [hj, appF_succ, hbt, if_pos rfl]
      rcases h2 ts1 q e1 trivial with ⟨ts2, e3, e4⟩ | ⟨hz, p, e3⟩
      · rw [e3]
        refine .inl ⟨ts2, e4, ?_, by omega⟩
        rw [show L - (m + 1) = j by omega]
        rfl
      · rw [e3]; exact .inr ⟨hz, p, rfl⟩
    · have hz : Z := by rcases hL with h | h
                        · exact h
                        · omega
      rw [show L - m = 0 by omega, appF_zero, hbt, if_pos rfl]
      exact .inr ⟨hz, _, rfl⟩
  · exact .inr h
theorem within_beg {x : Tm} {d : Nat} (h : exprB d x = true) (b : Bool) (hb : b = false → kdM x ≠ 26 ∧ kdM x ≠ 28 ∧ kdM x ≠ 29) (q : List Tk) : begK (withinK b (toks d x) ++ q) = true := by
  cases b with
  | true => exact beg_open _
  | false => exact beg_head d x h (hb rfl) q
theorem closed {x : Tm} (h : openM x = false) : kdM x ≠ 26 ∧ kdM x ≠ 28 ∧ kdM x ≠ 29 := by
  obtain ⟨k, p, n, N, kids⟩ := x
  simp only [openM, Bool.or_eq_false_iff, beq_eq_false_iff_ne] at h
  exact ⟨h.1.1.2, h.1.2, h.2⟩
/-- A row of applications is read, up to its last one. -/
theorem spine_back {Z : Prop} {E L D : Nat} {one typ : Ts → Res Tm} (H : ∀ d, d ≤ D → ∀ y, exprB d y = true → RdK Z one y (toks d y) StE) (HT : ∀ d, d ≤ D → ∀ y, typeB d y = true → RdK Z typ y (toks d y) StT) (hL : Z ∨ D < L) :
    ∀ d, d ≤ D + 1 → ∀ x, exprB d x = true → openM x = false → ∃ m, m + 1 ≤ d ∧ Sp Z E L (atomP E one typ) m x (toks d x) := by
  intro d
  induction d with
  | zero => intro _ x h; cases h
  | succ d ih =>
    intro hd x h ho
    have hcl := closed ho
    by_cases h7 : kdM x = 27
    · obtain ⟨k, p, n, N, kids⟩ := x
      obtain rfl : k = 27 := h7
      simp only [exprB, show ¬ (27 : Int) = 21 by decide, show ¬ (27 : Int) = 22 by decide, show ¬ (27 : Int) = 23 by decide, show ¬ (27 : Int) = 24 by decide, show ¬ (27 : Int) = 25 by decide, show ¬ (27 : Int) = 26 by decide, if_false, if_true, Bool.and_eq_true] at h
      obtain ⟨rfl, rfl, rfl⟩ := bare_eq h.1
      obtain ⟨A, C, rfl, hA, hC⟩ := zip_e1 h.2
      have e : toks (d + 1) (.mk 27 e0 e0 0 [A, C]) = withinK (openM A) (toks d A) ++ withinK (openM C || kdM C == 27) (toks d C) := by simp [toks, cmpK]
      rw [e]
      have hC2 : RdK Z (atomP E one typ) C (withinK (openM C || kdM C == 27) (toks d C)) (fun _ => True) := by
        cases hb : (openM C || kdM C == 27) with
        | true => exact exHeld_back (H d (by omega) C hC) hC
        | false =>
          simp only [Bool.or_eq_false_iff, beq_eq_false_iff_ne] at hb
          have hc := closed hb.1
          cases d with
          | zero => cases hC
          | succ d => exact (atom_back (H d (by omega)) (HT d (by omega)) hC ⟨hc.1, hb.2, hc.2.1, hc.2.2⟩).weak fun q _ h => by rw [hb.1] at h; cases h
      have hCb : ∀ q, begK (withinK (openM C || kdM C == 27) (toks d C) ++ q) = true := within_beg hC _ fun hb => closed (Bool.or_eq_false_iff.1 hb).1
      cases hoA : openM A with
      | true =>
        refine ⟨1, ?_, ?_⟩
        · cases d with
          | zero => cases hA
          | succ d => omega
        · exact (Sp.atom (exHeld_back (H d (by omega) A hA) hA)).next hC2 hCb (hL.imp id (by omega))
      | false =>
        obtain ⟨m, hm, hs⟩ := ih (by omega) A hA hoA
        exact ⟨m + 1, by omega, hs.next hC2 hCb (hL.imp id (by omega))⟩
    · exact ⟨0, by omega, Sp.atom ((atom_back (H d (by omega)) (HT d (by omega)) h ⟨hcl.1, h7, hcl.2.1, hcl.2.2⟩).weak fun q _ h => by rw [ho] at h; cases h)⟩
theorem arm_back {Z : Prop} {E : Nat} {pat one : Ts → Res Tm} {d : Nat} (HP : ∀ y, patB d y = true → RdK Z pat y (toks d y) StP) (H : ∀ y, exprB d y = true → RdK Z one y (toks d y) StE) {p x : Tm} (hp : patB d p = true) (hx : exprB d x = true) :
    RdK Z (armP E pat one) [p, x] (toks d p ++ (sg sArrow :: toks d x)) StE := by
  intro ts q ht hq
  rw [List.append_assoc] at ht
  unfold armP
  refine Rds.bnd (HP p hp _ _ ht (StP.arrow _)) fun ts1 e1 => ?_
  refine Rds.bnd (key_back e1) fun ts2 e2 => ?_
  exact Rds.bnd (H x hx _ _ e2 hq) fun ts3 e3 => Rds.ok e3
/-- A match's Kids behind the first, two by two. -/
theorem alt_pairs {f11 f13 : Tm → Bool} : ∀ (n : Nat) (r : List Tm) (i : Nat), r.length ≤ n → r.length % 2 = 0 → i % 2 = 1 → altB f11 f13 i r = true → ∃ l : List (Tm × Tm), r = (l.map fun y => [y.1, y.2]).flatten ∧ (∀ y ∈ l, f11 y.1 = true ∧ f13 y.2 = true) ∧ r.length = 2 * l.length := by
  intro n
  induction n with
  | zero =>
    intro r i hn _ _ _
    obtain rfl : r = [] := List.eq_nil_of_length_eq_zero (by omega)
    exact ⟨[], rfl, (fun y hy => by cases hy), rfl⟩
  | succ n ih =>
    intro r i hn h2 hi h
    match r, hn, h2, h with
    | [], _, _, _ => exact ⟨[], rfl, (fun y hy => by cases hy), rfl⟩
    | [a], _, h2, _ => simp at h2
    | a :: c :: r, hn, h2, h =>
      simp only [altB, Bool.and_eq_true] at h
      rw [if_pos hi, if_neg (by omega)] at h
      obtain ⟨l, e1, e2, e3⟩ := ih r (i + 2) (by simp at hn; omega) (by simp at h2; omega) (by omega) h.2.2
      refine ⟨(a, c) :: l, by rw [e1]; rfl, fun y hy => ?_, by simp; omega⟩
      rcases List.mem_cons.1 hy with rfl | hy
      · exact ⟨h.1, h.2.1⟩
      · exact e2 y hy
theorem arms_pairs {K : Tm → List Tk} : ∀ (l : List (Tm × Tm)), armsK false (((l.map fun y => [y.1, y.2]).flatten).map K) = (l.map fun y => K y.1 ++ (sg sArrow :: K y.2)).flatMap (sg sBar :: ·)
  | [] => rfl
  | y :: l => by
    have h := arms_pairs (K := K) l
    simp only [List.map_cons, List.flatten_cons, List.map_append, List.flatMap_cons, List.map_nil, List.cons_append, List.nil_append, armsK] at h ⊢
    rw [h]
    simp
theorem sevArms_back {Z : Prop} {E : Nat} {one : Ts → Res (List Tm)} {K : Tm × Tm → List Tk} {St : List Tk → Prop} (hbt : ∀ q, St (⟨8, sBar, 0⟩ :: q)) {a : Tm × Tm} {r : List (Tm × Tm)} (hK : ∀ x ∈ a :: r, RdK Z one [x.1, x.2] (K x) St)
    {ts : Ts} {q : List Tk} (h : ts.map Prod.fst = K a ++ ((r.map K).flatMap (sg sBar :: ·) ++ q)) (hb : isK 8 sBar q = false) (hq : St q) : Rds Z (sevP E sBar one ts) ((a :: r).map fun y => [y.1, y.2]) q := by
  unfold sevP
  have hst : St ((r.map K).flatMap (⟨8, sBar, 0⟩ :: ·) ++ q) := by
    cases r with
    | nil => exact hq
    | cons b r => exact hbt _
  refine Rds.bnd (hK a (by simp) _ _ h hst) fun ts1 h1 => ?_
  unfold sevL
  have hl := congrArg List.length h1
  have hf := flatK_len (sg sBar) (r.map K)
  simp only [List.length_map, List.length_append] at hl hf
  have hl : ts1.length = ((r.map K).flatMap (sg sBar :: ·)).length + q.length := hl
  have key : ∀ (kids : List (Tm × Tm)) (f : Nat) (ts : Ts) (acc : List (List Tm)), (∀ x ∈ kids, RdK Z one [x.1, x.2] (K x) St) → ts.map Prod.fst = (kids.map K).flatMap (⟨8, sBar, 0⟩ :: ·) ++ q → kids.length < f → Rds Z (sevF E sBar one f ts acc) (acc ++ kids.map fun y => [y.1, y.2]) q := by
    intro kids
    induction kids with
    | nil =>
      intro f ts acc _ h hf
      cases f with
      | zero => omega
      | succ f =>
        have h' : ts.map Prod.fst = q := by simpa using h
        unfold sevF
        rw [isB_eq, h', hb, List.map_nil, List.append_nil]
        exact Rds.ok h'
    | cons a r ih =>
      intro f ts acc hK h hf
      cases f with
      | zero => omega
      | succ f =>
        have h' : ts.map Prod.fst = ⟨8, sBar, 0⟩ :: (K a ++ ((r.map K).flatMap (⟨8, sBar, 0⟩ :: ·) ++ q)) := by rw [h]; simp
        unfold sevF
        rw [isB_eq, h', isK_yes, if_pos rfl]
        have hst : St ((r.map K).flatMap (⟨8, sBar, 0⟩ :: ·) ++ q) := by
          cases r with
          | nil => exact hq
          | cons b r => exact hbt _
        refine Rds.bnd (hK a (by simp) _ _ (tail_map h') hst) fun ts1 h1 => ?_
        have := ih f ts1 (acc ++ [[a.1, a.2]]) (fun x hx => hK x (by simp [hx])) h1 (by simp at hf; omega)
        rw [List.append_assoc] at this
        exact this
  exact key r _ ts1 [[a.1, a.2]] (fun x hx => hK x (by simp [hx])) h1 (by omega)
theorem StE.bar (q : List Tk) : StE (sg sBar :: q) := StE.sign (by decide) (by decide)
theorem letR_back {Z : Prop} {E : Nat} {one typ : Ts → Res Tm} {d : Nat} (H : ∀ y, exprB d y = true → RdK Z one y (toks d y) StE) (HT : ∀ y, typeB d y = true → RdK Z typ y (toks d y) StT) {n : ByteArray} {N : Int} {A C : Tm} {r : List Tm} (hA : exprB d A = true) (hC : exprB d C = true) (hr : r = [] ∨ ∃ t, r = [t] ∧ typeB d t = true) :
    RdK Z (letR E one typ N) (.mk 28 e0 n N ([A, C] ++ r)) (⟨1, n, 0⟩ :: (annK (r.map (toks d)) ++ (sg sEq :: (toks d A ++ (kw kIn :: toks d C))))) StE := by
  intro ts q ht hq
  unfold letR
  refine Rds.bnd (take_back ht) fun ts1 e1 => ?_
  have e1 : ts1.map Prod.fst = annK (r.map (toks d)) ++ (sg sEq :: (toks d A ++ (kw kIn :: (toks d C ++ q)))) := by
    have h : ts1.map Prod.fst = (annK (r.map (toks d)) ++ (sg sEq :: (toks d A ++ (kw kIn :: toks d C)))) ++ q := e1
    simpa using h
  refine Rds.bnd (a := r) (q := sg sEq :: (toks d A ++ (kw kIn :: (toks d C ++ q)))) ?_ fun ts2 e2 => ?_
  · unfold annP
    rcases hr with rfl | ⟨t, rfl, ht2⟩
    · have e1' : ts1.map Prod.fst = sg sEq :: (toks d A ++ (kw kIn :: (toks d C ++ q))) := by simpa [annK] using e1
      rw [isB_eq, e1', isK_text (by decide)]
      exact Rds.ok e1'
    · have e1' : ts1.map Prod.fst = sg sColon :: (toks d t ++ (sg sEq :: (toks d A ++ (kw kIn :: (toks d C ++ q))))) := by simpa [annK] using e1
      rw [isB_eq, e1', isK_yes, if_pos rfl]
      exact Rds.bnd (HT t ht2 _ _ (tail_map e1') ⟨isK_text (by decide), isK_text (by decide)⟩) fun ts2 e2 => Rds.ok e2
  · refine Rds.bnd (key_back e2) fun ts3 e3 => ?_
    refine Rds.bnd (H A hA _ _ e3 StE.word) fun ts4 e4 => ?_
    refine Rds.bnd (key_back e4) fun ts5 e5 => ?_
    exact Rds.bnd (H C hC _ _ e5 hq) fun ts6 e6 => Rds.ok e6
/-- An expression is read. -/
theorem expr_back (Z : Prop) (E L : Nat) : ∀ (d : Nat) (x : Tm) (g : Nat), exprB d x = true → (Z ∨ (d ≤ g ∧ d ≤ L)) → RdK Z (exprPL E L g) x (toks d x) StE := by
  intro d
  induction d using Nat.strongRecOn with
  | ind d ih =>
  cases d with
  | zero => intro x g h; cases h
  | succ d =>
    intro x g h hz ts q ht hq
    cases g with
    | zero =>
      unfold exprPL
      rcases hz with hz | hz
      · exact Rds.die hz
      · omega
    | succ g =>
      have HD : ∀ d', d' ≤ d → ∀ y, exprB d' y = true → RdK Z (exprPL E L g) y (toks d' y) StE := fun d' hd y hy => ih d' (by omega) y g hy (hz.imp id (by omega))
      have HTD : ∀ d', d' ≤ d → ∀ y, typeB d' y = true → RdK Z (typP E g) y (toks d' y) StT := fun d' hd y hy => typ_back Z E d' y g hy (hz.imp id (by omega))
      have H := HD d (Nat.le_refl _)
      have HT := HTD d (Nat.le_refl _)
      have HP : ∀ y, patB d y = true → RdK Z (patP E g) y (toks d y) StP := fun y hy => pat_back Z E d y g hy (hz.imp id (by omega))
      have hz1 : Z ∨ d < L := hz.imp id (by omega)
      clear ih hz
      unfold exprPL
      by_cases h1 : kdM x = 26
      · obtain ⟨k, p, n, N, kids⟩ := x
        obtain rfl : k = 26 := h1
        simp only [exprB, show ¬ (26 : Int) = 21 by decide, show ¬ (26 : Int) = 22 by decide, show ¬ (26 : Int) = 23 by decide, show ¬ (26 : Int) = 24 by decide, show ¬ (26 : Int) = 25 by decide, if_false, if_true, Bool.and_eq_true] at h
        obtain ⟨rfl, rfl, hr⟩ := named_eq h.1
        obtain ⟨A, rfl, hA⟩ := zip_e h.2
        have e : toks (d + 1) (.mk 26 e0 n 0 [A]) = kw kFun :: ⟨1, n, 0⟩ :: sg sArrow :: toks d A := by simp [toks, cmpK]
        rw [e] at ht
        rw [isB_eq, ht, show (kw kFun :: ⟨1, n, 0⟩ :: sg sArrow :: toks d A ++ q : List Tk) = kw kFun :: (⟨1, n, 0⟩ :: sg sArrow :: toks d A ++ q) from rfl, isK_yes, if_pos rfl]
        unfold funP
        refine Rds.bnd (take_back (tail_map ht)) fun ts1 e1 => ?_
        refine Rds.bnd (key_back e1) fun ts2 e2 => ?_
        exact Rds.bnd (H A hA _ _ e2 hq) fun ts3 e3 => Rds.ok e3
      by_cases h2 : kdM x = 28
      · obtain ⟨k, p, n, N, kids⟩ := x
        obtain rfl : k = 28 := h2
        simp only [exprB, show ¬ (28 : Int) = 21 by decide, show ¬ (28 : Int) = 22 by decide, show ¬ (28 : Int) = 23 by decide, show ¬ (28 : Int) = 24 by decide, show ¬ (28 : Int) = 25 by decide, show ¬ (28 : Int) = 26 by decide, show ¬ (28 : Int) = 27 by decide, if_false, if_true] at h
        unfold letB at h
        simp only [Bool.and_eq_true, Bool.or_eq_true] at h
        obtain ⟨rfl, hN, hr⟩ := named_eq h.1
        have hk : ∃ A C r, kids = [A, C] ++ r ∧ exprB d A = true ∧ exprB d C = true ∧ (r = [] ∨ ∃ t, r = [t] ∧ typeB d t = true) := by
          rcases h.2 with h2 | h2
          · obtain ⟨A, C, rfl, hA, hC⟩ := zip_e1 h2; exact ⟨A, C, [], rfl, hA, hC, .inl rfl⟩
          · obtain ⟨A, C, T, rfl, hA, hC, hT⟩ := zip_e3 h2; exact ⟨A, C, [T], rfl, hA, hC, .inr ⟨T, rfl, hT⟩⟩
        obtain ⟨A, C, r, rfl, hA, hC, hr2⟩ := hk
        have e : toks (d + 1) (.mk 28 e0 n N ([A, C] ++ r)) = kw kLet :: ((if N = 1 then [kw kRec] else []) ++ (⟨1, n, 0⟩ :: (annK (r.map (toks d)) ++ (sg sEq :: (toks d A ++ (kw kIn :: toks d C)))))) := by simp [toks, cmpK, Function.comp_def]
        rw [e] at ht
        have hb1 : isB 7 kFun ts = false := by rw [isB_eq, ht]; exact isK_text (by decide)
        rw [hb1, isB_eq, ht, show ∀ z : List Tk, (kw kLet :: z ++ q : List Tk) = kw kLet :: (z ++ q) from fun _ => rfl, isK_yes]
        simp only [Bool.false_eq_true, if_false, if_true]
        have ht2 := tail_map ht
        unfold letP
        by_cases hN1 : N = 1
        · subst hN1
          rw [if_pos rfl] at ht2
          have hb : isB 7 kRec ts.tail = true := by rw [isB_eq, ht2]; exact isK_yes _ _ _ _
          rw [if_pos hb]
          exact letR_back H HT hA hC hr2 _ q (tail_map ht2) hq
        · rw [if_neg hN1] at ht2
          have hN0 : N = 0 := by unfold letN at hN; rw [if_neg hN1] at hN; exact hN
          subst hN0
          have hb : isB 7 kRec ts.tail = false := by rw [isB_eq, ht2]; exact isK_kind (by decide)
          rw [if_neg (by rw [hb]; simp)]
          exact letR_back H HT hA hC hr2 _ q ht2 hq
      by_cases h3 : kdM x = 29
      · obtain ⟨k, p, n, N, kids⟩ := x
        obtain rfl : k = 29 := h3
        simp only [exprB, show ¬ (29 : Int) = 21 by decide, show ¬ (29 : Int) = 22 by decide, show ¬ (29 : Int) = 23 by decide, show ¬ (29 : Int) = 24 by decide, show ¬ (29 : Int) = 25 by decide, show ¬ (29 : Int) = 26 by decide, show ¬ (29 : Int) = 27 by decide, show ¬ (29 : Int) = 28 by decide, if_false, if_true, Bool.and_eq_true] at h
        obtain ⟨rfl, rfl, rfl⟩ := bare_eq h.1
        unfold matchB at h
        simp only [Bool.and_eq_true, decide_eq_true_eq, beq_iff_eq] at h
        obtain ⟨_, h3, h2, ha⟩ := h
        match kids, h3, h2, ha with
        | A :: r, h3, h2, ha =>
          simp only [altB, Bool.and_eq_true] at ha
          rw [if_neg (by decide)] at ha
          obtain ⟨l, rfl, hl, hlen⟩ := alt_pairs _ r 1 (Nat.le_refl _) (by simp at h2; omega) (by decide) ha.2
          match l, hl, hlen, h3 with
          | [], _, hlen, h3 => simp at h3
          | y :: l, hl, hlen, h3 =>
            have e : toks (d + 1) (.mk 29 e0 e0 0 (A :: ((y :: l).map fun y => [y.1, y.2]).flatten)) = kw kMatch :: (toks d A ++ (kw kWith :: (toks d y.1 ++ (sg sArrow :: (toks d y.2 ++ (l.map fun y => toks d y.1 ++ (sg sArrow :: toks d y.2)).flatMap (sg sBar :: ·)))) ++ [kw kEnd])) := by
              have := arms_pairs (K := toks d) l
              simp only [toks, cmpK, show ¬ (29 : Int) = 1 by decide, show ¬ (29 : Int) = 11 by decide, show ¬ ((29 : Int) = 13 ∨ (29 : Int) = 22) by decide, show ¬ ((29 : Int) = 14 ∨ (29 : Int) = 23) by decide, show ¬ ((29 : Int) = 12 ∨ (29 : Int) = 21 ∨ (29 : Int) = 2) by decide, show ¬ ((29 : Int) = 15 ∨ (29 : Int) = 24) by decide, show ¬ ((29 : Int) = 4 ∨ (29 : Int) = 16 ∨ (29 : Int) = 25) by decide, show ¬ (29 : Int) = 3 by decide, show ¬ (29 : Int) = 26 by decide, show ¬ (29 : Int) = 27 by decide, show ¬ (29 : Int) = 28 by decide, if_false, if_true, List.map_cons, List.map_map, Function.comp_def, List.flatten_cons, List.cons_append, List.nil_append, armsK]
              rw [this]
            rw [e] at ht
            have hb1 : isB 7 kFun ts = false := by rw [isB_eq, ht]; exact isK_text (by decide)
            have hb2 : isB 7 kLet ts = false := by rw [isB_eq, ht]; exact isK_text (by decide)
            have hb3 : isB 7 kMatch ts = true := by rw [isB_eq, ht]; exact isK_yes _ _ _ _
            rw [hb1, hb2, hb3]
            simp only [Bool.false_eq_true, if_false, if_true]
            have ht2 : ts.tail.map Prod.fst = toks d A ++ (kw kWith :: (toks d y.1 ++ (sg sArrow :: (toks d y.2 ++ ((l.map fun y => toks d y.1 ++ (sg sArrow :: toks d y.2)).flatMap (sg sBar :: ·) ++ (kw kEnd :: q)))))) := by
              have h := tail_map ht
              simpa using h
            unfold matP
            refine Rds.bnd (H A ha.1 _ _ ht2 StE.word) fun ts1 e1 => ?_
            refine Rds.bnd (key_back e1) fun ts2 e2 => ?_
            refine Rds.bnd (sevArms_back (K := fun y => toks d y.1 ++ (sg sArrow :: toks d y.2)) StE.bar (a := y) (r := l) (fun z hz => arm_back HP H (hl z hz).1 (hl z hz).2) (q := kw kEnd :: q) (by rw [e2]; simp) (isK_kind (by decide)) StE.word) fun ts3 e3 => ?_
            exact Rds.bnd (key_back e3) fun ts4 e4 => Rds.ok e4
      -- an atom, or a row of applications
      have hbeg := beg_head (d + 1) x h ⟨h1, h2, h3⟩ q
      have hb1 : isB 7 kFun ts = false := by rw [isB_eq, ht]; exact beg_kd hbeg _
      have hb2 : isB 7 kLet ts = false := by rw [isB_eq, ht]; exact beg_kd hbeg _
      have hb3 : isB 7 kMatch ts = false := by rw [isB_eq, ht]; exact beg_kd hbeg _
      rw [hb1, hb2, hb3]
      simp only [Bool.false_eq_true, if_false]
      have fin : ∀ ts' k, ts'.map Prod.fst = q → Rds Z (appF E (atomP E (exprPL E L g) (typP E g)) k x ts') x q := fun ts' k e => by
        have hb : begB ts' = false := by rw [begB_eq, e]; exact hq.1
        cases k with
        | zero => unfold appF; rw [hb]; exact Rds.ok e
        | succ k => unfold appF; rw [hb]; exact Rds.ok e
      cases ho : openM x with
      | true =>
        unfold appPL
        by_cases h7 : kdM x = 27
        · obtain ⟨k, p, n, N, kids⟩ := x
          obtain rfl : k = 27 := h7
          simp [openM] at ho
        · exact Rds.bnd (atom_back H HT h ⟨h1, h7, h2, h3⟩ ts q ht fun _ => ⟨hq.open, hq.2⟩) fun ts1 e1 => fin ts1 L e1
      | false =>
        obtain ⟨m, hm, hs⟩ := spine_back (E := E) (L := L) HD HTD hz1 (d + 1) (Nat.le_refl _) x h ho
        rcases hs ts q ht with ⟨ts', e1, e2, _⟩ | ⟨hz, p, e2⟩
        · rw [e2]; exact fin ts' _ e1
        · exact .inr ⟨hz, p, e2⟩
/-- No two expressions have the same tokens; no two types. -/
theorem toks_expr {d : Nat} {x y : Tm} (hx : exprB d x = true) (hy : exprB d y = true) (h : toks d x = toks d y) : x = y := by
  have key : ∀ z, exprB d z = true → ∀ ts, ts.map Prod.fst = toks d z → Rds False (exprPL 0 d d ts) z [] := fun z hz ts e =>
    expr_back False 0 d d z d hz (.inr ⟨Nat.le_refl _, Nat.le_refl _⟩) ts [] (by rw [e]; simp) ⟨by decide, by decide⟩
  have e0 : ∃ ts : Ts, ts.map Prod.fst = toks d x := ⟨(toks d x).map fun t => (t, 0), by rw [List.map_map]; exact List.map_id _⟩
  obtain ⟨ts, e⟩ := e0
  rcases key x hx ts e with ⟨t1, e1, _⟩ | ⟨hf, _⟩
  · rcases key y hy ts (e.trans h) with ⟨t2, e2, _⟩ | ⟨hf, _⟩
    · rw [e1] at e2
      cases e2
      rfl
    · exact hf.elim
  · exact hf.elim
theorem toks_type {d : Nat} {x y : Tm} (hx : typeB d x = true) (hy : typeB d y = true) (h : toks d x = toks d y) : x = y := by
  have key : ∀ z, typeB d z = true → ∀ ts, ts.map Prod.fst = toks d z → Rds False (typP 0 d ts) z [] := fun z hz ts e =>
    typ_back False 0 d z d hz (.inr (Nat.le_refl _)) ts [] (by rw [e]; simp) ⟨by decide, by decide⟩
  have e0 : ∃ ts : Ts, ts.map Prod.fst = toks d x := ⟨(toks d x).map fun t => (t, 0), by rw [List.map_map]; exact List.map_id _⟩
  obtain ⟨ts, e⟩ := e0
  rcases key x hx ts e with ⟨t1, e1, _⟩ | ⟨hf, _⟩
  · rcases key y hy ts (e.trans h) with ⟨t2, e2, _⟩ | ⟨hf, _⟩
    · rw [e1] at e2
      cases e2
      rfl
    · exact hf.elim
  · exact hf.elim
/-- What is judged can be read. -/
theorem wfk_type : ∀ (d : Nat) (x : Tm), typeB d x = true → WfK d x := by
  intro d
  induction d with
  | zero => intro x h; cases h
  | succ d ih =>
    intro x h
    obtain ⟨k, p, n, N, kids⟩ := x
    simp only [typeB] at h
    by_cases h1 : k = 1
    · subst h1
      simp only [if_true, Bool.and_eq_true] at h
      obtain ⟨rfl, rfl, hr⟩ := named_eq h.1
      obtain rfl := len0 h.2
      exact ⟨(fun x hx => by cases hx), .inl ⟨rfl, hr⟩⟩
    rw [if_neg h1] at h
    by_cases h2 : k = 2
    · subst h2
      simp only [if_true, Bool.and_eq_true] at h
      exact ⟨fun x hx => ih x (List.all_eq_true.1 h.2 x hx), .inr (.inr (.inr (.inr (.inl ⟨.inr (.inr rfl), (qual_eq h.1).2⟩))))⟩
    rw [if_neg h2] at h
    by_cases h3 : k = 3
    · subst h3
      rw [if_pos rfl, zip_two] at h
      simp only [Bool.and_eq_true, beq_iff_eq] at h
      exact ⟨fun x hx => ih x (List.all_eq_true.1 h.2.2 x hx), .inr (.inr (.inr (.inr (.inr (.inr (.inr (.inl ⟨rfl, h.2.1⟩)))))))⟩
    rw [if_neg h3] at h
    by_cases h4 : k = 4
    · subst h4
      rw [if_pos rfl] at h
      unfold tupB at h
      simp only [Bool.and_eq_true] at h
      exact ⟨fun x hx => ih x (List.all_eq_true.1 h.2.2 x hx), .inr (.inr (.inr (.inr (.inr (.inr (.inl (.inl rfl)))))))⟩
    rw [if_neg h4] at h
    cases h
theorem wfk_pat : ∀ (d : Nat) (x : Tm), patB d x = true → WfK d x := by
  intro d
  induction d with
  | zero => intro x h; cases h
  | succ d ih =>
    intro x h
    obtain ⟨k, p, n, N, kids⟩ := x
    simp only [patB] at h
    have none : (kids.length == 0) = true → ∀ x ∈ kids, WfK d x := fun h x hx => by rw [len0 h] at hx; cases hx
    by_cases h1 : k = 11
    · subst h1
      simp only [if_true, Bool.and_eq_true] at h
      exact ⟨none h.2, .inr (.inl rfl)⟩
    rw [if_neg h1] at h
    by_cases h2 : k = 12
    · subst h2
      simp only [if_true, Bool.and_eq_true] at h
      obtain ⟨rfl, rfl, hr⟩ := named_eq h.1
      exact ⟨none h.2, .inr (.inr (.inr (.inr (.inl ⟨.inl rfl, hr, .inl e0_list⟩))))⟩
    rw [if_neg h2] at h
    by_cases h3 : k = 13
    · subst h3
      simp only [if_true, Bool.and_eq_true] at h
      exact ⟨none h.2, .inr (.inr (.inl ⟨.inl rfl, (num_eq h.1).2.2⟩))⟩
    rw [if_neg h3] at h
    by_cases h4 : k = 14
    · subst h4
      simp only [if_true, Bool.and_eq_true] at h
      exact ⟨none h.2, .inr (.inr (.inr (.inl ⟨.inl rfl, (named_eq h.1).2.2⟩)))⟩
    rw [if_neg h4] at h
    by_cases h5 : k = 15
    · subst h5
      simp only [if_true, Bool.and_eq_true] at h
      exact ⟨fun x hx => ih x (List.all_eq_true.1 h.2 x hx), .inr (.inr (.inr (.inr (.inr (.inl ⟨.inl rfl, (qual_eq h.1).2⟩)))))⟩
    rw [if_neg h5] at h
    by_cases h6 : k = 16
    · subst h6
      rw [if_pos rfl] at h
      unfold tupB at h
      simp only [Bool.and_eq_true] at h
      exact ⟨fun x hx => ih x (List.all_eq_true.1 h.2.2 x hx), .inr (.inr (.inr (.inr (.inr (.inr (.inl (.inr (.inl rfl))))))))⟩
    rw [if_neg h6] at h
    cases h
theorem altK_all {f11 f13 : Tm → Bool} {P : Tm → Prop} (h1 : ∀ x, f11 x = true → P x) (h2 : ∀ x, f13 x = true → P x) : ∀ (r : List Tm) (i : Nat), altB f11 f13 i r = true → ∀ x ∈ r, P x := by
  intro r
  induction r with
  | nil => intro i _ x hx; cases hx
  | cons a r ih =>
    intro i h x hx
    simp only [altB, Bool.and_eq_true] at h
    rcases List.mem_cons.1 hx with rfl | hx
    · have h3 := h.1
      split at h3
      · exact h1 x h3
      · exact h2 x h3
    · exact ih (i + 1) h.2 x hx
theorem wfk_expr : ∀ (d : Nat) (x : Tm), exprB d x = true → WfK d x := by
  intro d
  induction d with
  | zero => intro x h; cases h
  | succ d ih =>
    intro x h
    obtain ⟨k, p, n, N, kids⟩ := x
    simp only [exprB] at h
    have none : (kids.length == 0) = true → ∀ x ∈ kids, WfK d x := fun h x hx => by rw [len0 h] at hx; cases hx
    by_cases h1 : k = 21
    · subst h1
      simp only [if_true, Bool.and_eq_true] at h
      exact ⟨none h.2, .inr (.inr (.inr (.inr (.inl ⟨.inr (.inl rfl), (qual_eq h.1).2⟩))))⟩
    rw [if_neg h1] at h
    by_cases h2 : k = 22
    · subst h2
      simp only [if_true, Bool.and_eq_true] at h
      exact ⟨none h.2, .inr (.inr (.inl ⟨.inr rfl, (num_eq h.1).2.2⟩))⟩
    rw [if_neg h2] at h
    by_cases h3 : k = 23
    · subst h3
      simp only [if_true, Bool.and_eq_true] at h
      exact ⟨none h.2, .inr (.inr (.inr (.inl ⟨.inr rfl, (named_eq h.1).2.2⟩)))⟩
    rw [if_neg h3] at h
    by_cases h4 : k = 24
    · subst h4
      simp only [if_true, Bool.and_eq_true] at h
      exact ⟨fun x hx => ih x (List.all_eq_true.1 h.2 x hx), .inr (.inr (.inr (.inr (.inr (.inl ⟨.inr rfl, (qual_eq h.1).2⟩)))))⟩
    rw [if_neg h4] at h
    by_cases h5 : k = 25
    · subst h5
      rw [if_pos rfl] at h
      unfold tupB at h
      simp only [Bool.and_eq_true] at h
      exact ⟨fun x hx => ih x (List.all_eq_true.1 h.2.2 x hx), .inr (.inr (.inr (.inr (.inr (.inr (.inl (.inr (.inr rfl))))))))⟩
    rw [if_neg h5] at h
    by_cases h6 : k = 26
    · subst h6
      simp only [if_true, Bool.and_eq_true] at h
      obtain ⟨rfl, rfl, hr⟩ := named_eq h.1
      obtain ⟨A, rfl, hA⟩ := zip_e h.2
      exact ⟨fun x hx => by cases List.mem_singleton.1 hx; exact ih A hA, .inr (.inr (.inr (.inr (.inr (.inr (.inr (.inr (.inl ⟨rfl, rfl, hr⟩))))))))⟩
    rw [if_neg h6] at h
    by_cases h7 : k = 27
    · subst h7
      simp only [if_true, Bool.and_eq_true] at h
      obtain ⟨A, C, rfl, hA, hC⟩ := zip_e1 h.2
      exact ⟨fun x hx => by simp at hx; rcases hx with rfl | rfl; exact ih _ hA; exact ih _ hC, .inr (.inr (.inr (.inr (.inr (.inr (.inr (.inr (.inr (.inl ⟨rfl, rfl⟩)))))))))⟩
    rw [if_neg h7] at h
    by_cases h8 : k = 28
    · subst h8
      rw [if_pos rfl] at h
      unfold letB at h
      simp only [Bool.and_eq_true, Bool.or_eq_true] at h
      obtain ⟨rfl, hN, hr⟩ := named_eq h.1
      refine ⟨?_, .inr (.inr (.inr (.inr (.inr (.inr (.inr (.inr (.inr (.inr (.inl ⟨rfl, ?_, hr⟩))))))))))⟩
      · rcases h.2 with h2 | h2
        · obtain ⟨A, C, rfl, hA, hC⟩ := zip_e1 h2
          intro x hx; simp at hx; rcases hx with rfl | rfl; exact ih _ hA; exact ih _ hC
        · obtain ⟨A, C, T, rfl, hA, hC, hT⟩ := zip_e3 h2
          intro x hx; simp at hx; rcases hx with rfl | rfl | rfl; exact ih _ hA; exact ih _ hC; exact wfk_type d _ hT
      · rcases h.2 with h2 | h2
        · obtain ⟨A, C, rfl, hA, hC⟩ := zip_e1 h2; simp
        · obtain ⟨A, C, T, rfl, hA, hC, hT⟩ := zip_e3 h2; simp
    rw [if_neg h8] at h
    by_cases h9 : k = 29
    · subst h9
      simp only [if_true, Bool.and_eq_true] at h
      have h2 := h.2
      unfold matchB at h2
      simp only [Bool.and_eq_true, decide_eq_true_eq, beq_iff_eq] at h2
      exact ⟨altK_all (wfk_pat d) ih kids 0 h2.2.2, .inr (.inr (.inr (.inr (.inr (.inr (.inr (.inr (.inr (.inr (.inr (.inl ⟨rfl, by omega, h2.2.1⟩)))))))))))⟩
    rw [if_neg h9] at h
    by_cases h10 : k = 30
    · subst h10
      simp only [if_true, Bool.and_eq_true] at h
      obtain ⟨A, C, rfl, hA, hC⟩ := zip_et h.2
      exact ⟨fun x hx => by simp at hx; rcases hx with rfl | rfl; exact ih _ hA; exact wfk_type d _ hC, .inr (.inr (.inr (.inr (.inr (.inr (.inr (.inr (.inr (.inr (.inr (.inr ⟨rfl, by simp⟩)))))))))))⟩
    rw [if_neg h10] at h
    cases h
/-- No two expressions are told alike; no two types. -/
theorem txt_expr {d : Nat} {x y : Tm} (hx : exprB d x = true) (hy : exprB d y = true) (h : txt d x = txt d y) : x = y := by
  have h1 := lexS_txt (wfk_expr d x hx)
  rw [h] at h1
  exact toks_expr hx hy (h1.one (lexS_txt (wfk_expr d y hy)))
theorem txt_type {d : Nat} {x y : Tm} (hx : typeB d x = true) (hy : typeB d y = true) (h : txt d x = txt d y) : x = y := by
  have h1 := lexS_txt (wfk_type d x hx)
  rw [h] at h1
  exact toks_type hx hy (h1.one (lexS_txt (wfk_type d y hy)))
/-- No expression is a type. -/
theorem type_noExpr {d : Nat} {x : Tm} (hx : exprB d x = true) : typeB d x = false := by
  cases d with
  | zero => rfl
  | succ d =>
    obtain ⟨k, p, n, N, kids⟩ := x
    simp only [exprB] at hx
    simp only [typeB]
    by_cases h1 : k = 1
    · subst h1; simp at hx
    by_cases h2 : k = 2
    · subst h2; simp at hx
    by_cases h3 : k = 3
    · subst h3; simp at hx
    by_cases h4 : k = 4
    · subst h4; simp at hx
    rw [if_neg h1, if_neg h2, if_neg h3, if_neg h4]
end Go.Proofs.YtmkjalnlldpdcaaGreatDoor
/- PrintApart, walked. -/
namespace Go.Proofs.YtmkjalnlldpdcaaGreatDoor
open Go.RowKit
set_option linter.unusedSimpArgs false
set_option linter.unusedVariables false
theorem ofL_inj {a b : List UInt8} (h : ofL a = ofL b) : a = b := by
  have := congrArg (fun s : ByteArray => s.data.toList) h
  simpa [ofL] using this
theorem ofL_ne {a : List UInt8} (h : a ≠ []) : (ofL a).toList ≠ [] := by
  rw [ByteArray.toList_eq]
  exact h
/-- What two tellers of a term come to: its text, if it is such. -/
def TxE (B : Nat → Tm → Bool) (D : Nat) (x : Tm) : ByteArray := if B D x = true then ofL (txt D x) else ⟨#[]⟩
/-- The cases that PrintApart parts. -/
def Apart (a b : Tm) (s t u v : ByteArray) : Prop :=
  (s.toList ≠ [] ∧ u = ⟨#[]⟩ ∧ (s = t ∧ a = b ∨ ¬ s.toList = t.toList)) ∨ (s = ⟨#[]⟩ ∧ (u = ⟨#[]⟩ ∨ (u.toList ≠ [] ∧ (u = v ∧ a = b ∨ ¬ u.toList = v.toList))))
theorem apart_of {D : Nat} {a b : Tm} (hna : exprB D a = true → txt D a ≠ []) (hnt : typeB D a = true → txt D a ≠ []) : Apart a b (TxE exprB D a) (TxE exprB D b) (TxE typeB D a) (TxE typeB D b) := by
  have same : ∀ B : Nat → Tm → Bool, (∀ x y, B D x = true → B D y = true → txt D x = txt D y → x = y) → B D a = true → txt D a ≠ [] → (TxE B D a).toList ≠ [] ∧ (TxE B D a = TxE B D b ∧ a = b ∨ ¬ (TxE B D a).toList = (TxE B D b).toList) := by
    intro B hB ha hn
    have e1 : TxE B D a = ofL (txt D a) := by unfold TxE; rw [if_pos ha]
    have h1 : (TxE B D a).toList ≠ [] := by rw [e1]; exact ofL_ne hn
    refine ⟨h1, ?_⟩
    by_cases he : (TxE B D a).toList = (TxE B D b).toList
    · refine .inl ⟨toList_injX he, ?_⟩
      have e2 := toList_injX he
      cases hb : B D b with
      | true =>
        have e3 : TxE B D b = ofL (txt D b) := by unfold TxE; rw [if_pos hb]
        rw [e1, e3] at e2
        exact hB a b ha hb (ofL_inj e2)
      | false =>
        exfalso
        have e3 : TxE B D b = ⟨#[]⟩ := by unfold TxE; rw [hb]; rfl
        apply h1
        rw [he, e3, ByteArray.toList_eq]
    · exact .inr he
  unfold Apart
  cases hb : exprB D a with
  | true =>
    have hu : TxE typeB D a = ⟨#[]⟩ := by unfold TxE; rw [type_noExpr hb]; rfl
    obtain ⟨h1, h2⟩ := same exprB (fun x y => txt_expr) hb (hna hb)
    exact .inl ⟨h1, hu, h2⟩
  | false =>
    have hs : TxE exprB D a = ⟨#[]⟩ := by unfold TxE; rw [hb]; rfl
    refine .inr ⟨hs, ?_⟩
    cases ht : typeB D a with
    | true => exact .inr (same typeB (fun x y => txt_type) ht (hnt ht))
    | false => exact .inl (by unfold TxE; rw [ht]; rfl)
set_option maxRecDepth 100000 in
set_option maxHeartbeats 16000000 in
theorem apart_walk (da db : Nat) (va vb : Value) (ta tb : Tm) (w : World) (ha : IsC w da va ta) (hb' : IsC w db vb tb) (hna : ∀ D, Nf D ta) (hnb : ∀ D, Nf D tb) (hw : LxW w) : Calls Tryz.prog 6 #[va, vb] w fun e w' => e = .returned (.bool true) ∧ Below w.heap.size w w' := by
  obtain ⟨D, hD⟩ : ∃ D, D = max da db := ⟨_, rfl⟩
  have ha := ha.more (d' := D) (by omega)
  have hb' := hb'.more (d' := D) (by omega)
  obtain ⟨_, k0, p0, n0, NN0, q0, c0, kids, e1, eta, rfl, _, _, hk, _⟩ := ha.open
  obtain ⟨_, k1, p1, n1, NN1, q1, c1, kids1, e2, etb, rfl, _, _, hk1, _⟩ := hb'.open
  have HT := Lib.hid ha
  have HT1 := Lib.hid hb'
  have HNF := Lib.hid (hna D)
  have HNF1 := Lib.hid (hnb D)
  have HW := Lib.hid hw
  generalize kids.length = ln0 at *
  generalize kids1.length = ln1 at *
  clear e1 e2 eta etb ha hb' hw hna hnb hk hk1 hD
  have hB0 := (below_alloc w (.cells #[.int .i64 k0, .string p0, .string n0, .int .i64 NN0, .slice q0 ln0 c0] 24)).trans ((below_alloc (w.alloc (.cells #[.int .i64 k0, .string p0, .string n0, .int .i64 NN0, .slice q0 ln0 c0] 24)) (.cells #[.int .i64 k1, .string p1, .string n1, .int .i64 NN1, .slice q1 ln1 c1] 24)).mono (by simp))
  have HF := Lib.hid (few3_any D _ ta _ (HT.out.below hB0).isT)
  have HF1 := Lib.hid (fun W hW => few3_any D _ tb W (HT1.out.below hW).isT)
  have HB0 := Lib.hid hB0
  have hz0 : (w.alloc (.cells #[.int .i64 k0, .string p0, .string n0, .int .i64 NN0, .slice q0 ln0 c0] 24)).heap.size = w.heap.size + 1 := by simp
  have hk0 := hb_alloc (hb_new w (.cells #[.int .i64 k0, .string p0, .string n0, .int .i64 NN0, .slice q0 ln0 c0] 24)) (.cells #[.int .i64 k1, .string p1, .string n1, .int .i64 NN1, .slice q1 ln1 c1] 24)
  have hk1 := hb_new (w.alloc (.cells #[.int .i64 k0, .string p0, .string n0, .int .i64 NN0, .slice q0 ln0 c0] 24)) (.cells #[.int .i64 k1, .string p1, .string n1, .int .i64 NN1, .slice q1 ln1 c1] 24)
  rw [hz0] at hk1
  have K0 := Lib.hid hk0
  have K1 := Lib.hid hk1
  clear hk0 hk1 hB0 hz0
  go_enter Tryz.func6, Tryz.ntmps6
  go_upto_region 1 with (fail)
  go_wp2_with fail
  go_at_call 7
  with_reducible refine HF.out.mono ?_
  rintro e w2 ⟨r, rfl, hr, hb⟩
  have HR := Lib.hid hr
  have HB2 := Lib.hid (HB0.out.trans (hb.mono HB0.out.size))
  have hk0 := hb_below K0.out hb (hb_lt K0.out)
  have hk1 := hb_below K1.out hb (hb_lt K1.out)
  have K2 := Lib.hid hk0
  have K3 := Lib.hid hk1
  have x0 := hb_at hk0 0 rfl
  have x1 := hb_at hk0 1 rfl
  have x2 := hb_at hk0 2 rfl
  have x3 := hb_at hk0 3 rfl
  have x4 := hb_at hk0 4 rfl
  have y0 := hb_at hk1 0 rfl
  have y1 := hb_at hk1 1 rfl
  have y2 := hb_at hk1 2 rfl
  have y3 := hb_at hk1 3 rfl
  have y4 := hb_at hk1 4 rfl
  clear hr hb hk0 hk1
  cases r
  · go_wp2_with (go_at_call 8; ((with_reducible refine (alive_any _ (HW.out.below HB2.out)).mono ?_); rintro e w4 ⟨rfl, hb⟩))
    go_ret
    exact ⟨rfl, HB2.out.trans (hb.mono HB2.out.size)⟩
  go_wp2_with fail
  go_at_call 7
  with_reducible refine (HF1.out _ HB2.out).mono ?_
  rintro e w3 ⟨r, rfl, hr, hb⟩
  have HR1 := Lib.hid hr
  have HB3 := Lib.hid (HB2.out.trans (hb.mono HB2.out.size))
  have hk0 := hb_below K2.out hb (hb_lt K2.out)
  have hk1 := hb_below K3.out hb (hb_lt K3.out)
  clear x0 x1 x2 x3 x4 y0 y1 y2 y3 y4
  have x0 := hb_at hk0 0 rfl
  have x1 := hb_at hk0 1 rfl
  have x2 := hb_at hk0 2 rfl
  have x3 := hb_at hk0 3 rfl
  have x4 := hb_at hk0 4 rfl
  have y0 := hb_at hk1 0 rfl
  have y1 := hb_at hk1 1 rfl
  have y2 := hb_at hk1 2 rfl
  have y3 := hb_at hk1 3 rfl
  have y4 := hb_at hk1 4 rfl
  clear hr hb hk0 hk1
  cases r
  · go_wp2_with (go_at_call 8; ((with_reducible refine (alive_any _ (HW.out.below HB3.out)).mono ?_); rintro e w4 ⟨rfl, hb⟩))
    go_ret
    exact ⟨rfl, HB3.out.trans (hb.mono HB3.out.size)⟩
  · have hG := gd_of D ta (HR.out (by simp)).1 HNF.out
    have ht := (HR.out (by simp)).2
    have hG1 := gd_of D tb (HR1.out (by simp)).1 HNF1.out
    have ht1 := (HR1.out (by simp)).2
    have HA : RowKit.Hid (∀ W, Below w.heap.size w W → Calls Tryz.prog 13 #[tv k0 p0 n0 NN0 (.slice q0 ln0 c0)] W fun e w' => e = .returned (.string (TxE exprB D ta)) ∧ Below W.heap.size W w') := Lib.hid (fun W hb => print13_any D k0 p0 n0 NN0 q0 c0 ln0 ta W (HT.out.below hb) hG (HW.out.below hb) (ok_expr hG ht))
    have HC : RowKit.Hid (∀ W, Below w.heap.size w W → Calls Tryz.prog 13 #[tv k1 p1 n1 NN1 (.slice q1 ln1 c1)] W fun e w' => e = .returned (.string (TxE exprB D tb)) ∧ Below W.heap.size W w') := Lib.hid (fun W hb => print13_any D k1 p1 n1 NN1 q1 c1 ln1 tb W (HT1.out.below hb) hG1 (HW.out.below hb) (ok_expr hG1 ht1))
    have HU : RowKit.Hid (∀ W, Below w.heap.size w W → Calls Tryz.prog 9 #[tv k0 p0 n0 NN0 (.slice q0 ln0 c0)] W fun e w' => e = .returned (.string (TxE typeB D ta)) ∧ Below W.heap.size W w') := Lib.hid (fun W hb => print9_any D k0 p0 n0 NN0 q0 c0 ln0 ta W (HT.out.below hb) hG (HW.out.below hb) (ok_type hG ht))
    have HV : RowKit.Hid (∀ W, Below w.heap.size w W → Calls Tryz.prog 9 #[tv k1 p1 n1 NN1 (.slice q1 ln1 c1)] W fun e w' => e = .returned (.string (TxE typeB D tb)) ∧ Below W.heap.size W w') := Lib.hid (fun W hb => print9_any D k1 p1 n1 NN1 q1 c1 ln1 tb W (HT1.out.below hb) hG1 (HW.out.below hb) (ok_type hG1 ht1))
    have HAP := Lib.hid (apart_of (D := D) (a := ta) (b := tb) (fun h => (ok_expr hG ht h).2.1) (fun h => (ok_type hG ht h).2.1))
    have HS0 : RowKit.Hid (∀ W, Below w.heap.size w W → Calls Tryz.prog 24 #[tv k0 p0 n0 NN0 (.slice q0 ln0 c0), tv k1 p1 n1 NN1 (.slice q1 ln1 c1)] W (SameR ta tb W)) := Lib.hid fun W hb => refSame_any D _ _ ta tb W (HT.out.below hb).isT (HT1.out.below hb).isT
    generalize TxE exprB D ta = s at *
    generalize TxE exprB D tb = t at *
    generalize TxE typeB D ta = u at *
    generalize TxE typeB D tb = v at *
    clear hG ht hG1 ht1
    go_upto_region 3 with (fail)
    refine wp_region_held_drew (S := (fun w' => RowKit.Hid (Below w3.heap.size w3 w') ∧ w'.cell? ⟨w.heap.size, 0, none⟩ = some (.int .i64 k0) ∧ w'.cell? ⟨w.heap.size, 1, none⟩ = some (.string p0) ∧ w'.cell? ⟨w.heap.size, 2, none⟩ = some (.string n0) ∧ w'.cell? ⟨w.heap.size, 3, none⟩ = some (.int .i64 NN0) ∧ w'.cell? ⟨w.heap.size, 4, none⟩ = some (.slice q0 ln0 c0) ∧ w'.cell? ⟨w.heap.size + 1, 0, none⟩ = some (.int .i64 k1) ∧ w'.cell? ⟨w.heap.size + 1, 1, none⟩ = some (.string p1) ∧ w'.cell? ⟨w.heap.size + 1, 2, none⟩ = some (.string n1) ∧ w'.cell? ⟨w.heap.size + 1, 3, none⟩ = some (.int .i64 NN1) ∧ w'.cell? ⟨w.heap.size + 1, 4, none⟩ = some (.slice q1 ln1 c1))) (by kernel_rfl) (by exact ⟨Lib.hid (below_drewN (Below.refl _ _) 1), x0, x1, x2, x3, x4, y0, y1, y2, y3, y4⟩) (fun hHeld => ?_)
    refine wpAnyH_take (i := 0) (oi := ⟨some 18, _, _, _, _, _⟩) (v := ?_) rfl (by kernel_rfl) (by kernel_rfl) (by kernel_rfl) (fun _ _ _ h => h) (Or.inl ⟨by rfl, ?_⟩) (by assumption) ?_
    rotate_left
    focus (intro w hSw; (try dsimp only at hSw); go_simp; first | done | with_reducible rfl)
    try simp only [Act.put, List.setIfInBounds_toArray, List.set_cons_zero, List.set_cons_succ]
    refine wpAnyH_take (i := 2) (oi := ⟨some 20, _, _, _, _, _⟩) (v := ?_) rfl (by kernel_rfl) (by kernel_rfl) (by kernel_rfl) (fun _ _ _ h => h) (Or.inl ⟨by rfl, ?_⟩) (by assumption) ?_
    rotate_left
    focus (intro w hSw; (try dsimp only at hSw); go_simp; first | done | with_reducible rfl)
    try simp only [Act.put, List.setIfInBounds_toArray, List.set_cons_zero, List.set_cons_succ]
    refine wpAnyH_ready (rs := [1]) (by kernel_rfl) (by simp) ?_
    refine AllReadyH.cons (o := ⟨some 19, _, _, _, _, _⟩) rfl (fun K hK => ?_) AllReadyH.nil
    go_simp
    (with_reducible refine (HA.out _ (HB3.out.trans (hHeld.1.out.mono HB3.out.size))).mono ?_); rintro e v1 ⟨rfl, hb⟩
    go_wp2_with fail
    refine hK.out _ _ (by exact ⟨Lib.hid (hHeld.1.out.trans (hb.mono hHeld.1.out.size)), keep_cell hb hHeld.2.1, keep_cell hb hHeld.2.2.1, keep_cell hb hHeld.2.2.2.1, keep_cell hb hHeld.2.2.2.2.1, keep_cell hb hHeld.2.2.2.2.2.1, keep_cell hb hHeld.2.2.2.2.2.2.1, keep_cell hb hHeld.2.2.2.2.2.2.2.1, keep_cell hb hHeld.2.2.2.2.2.2.2.2.1, keep_cell hb hHeld.2.2.2.2.2.2.2.2.2.1, keep_cell hb hHeld.2.2.2.2.2.2.2.2.2.2⟩) (fun hNew => ?_)
    clear hK K
    clear hHeld hb; have hHeld := hNew; clear hNew
    try simp only [Act.put, List.setIfInBounds_toArray, List.set_cons_zero, List.set_cons_succ]
    refine wpAnyH_ready (rs := [3]) (by kernel_rfl) (by simp) ?_
    refine AllReadyH.cons (o := ⟨some 21, _, _, _, _, _⟩) rfl (fun K hK => ?_) AllReadyH.nil
    go_simp
    (with_reducible refine (HC.out _ (HB3.out.trans (hHeld.1.out.mono HB3.out.size))).mono ?_); rintro e v2 ⟨rfl, hb⟩
    go_wp2_with fail
    refine hK.out _ _ (by exact ⟨Lib.hid (hHeld.1.out.trans (hb.mono hHeld.1.out.size)), keep_cell hb hHeld.2.1, keep_cell hb hHeld.2.2.1, keep_cell hb hHeld.2.2.2.1, keep_cell hb hHeld.2.2.2.2.1, keep_cell hb hHeld.2.2.2.2.2.1, keep_cell hb hHeld.2.2.2.2.2.2.1, keep_cell hb hHeld.2.2.2.2.2.2.2.1, keep_cell hb hHeld.2.2.2.2.2.2.2.2.1, keep_cell hb hHeld.2.2.2.2.2.2.2.2.2.1, keep_cell hb hHeld.2.2.2.2.2.2.2.2.2.2⟩) (fun hNew => ?_)
    clear hK K
    clear hHeld hb; have hHeld := hNew; clear hNew
    try simp only [Act.put, List.setIfInBounds_toArray, List.set_cons_zero, List.set_cons_succ]
    refine wpAnyH_take (i := 4) (oi := ⟨some 5, _, _, _, _, _⟩) (v := ?_) rfl (by kernel_rfl) (by kernel_rfl) (by kernel_rfl) (fun _ _ _ h => h) (Or.inl ⟨by rfl, ?_⟩) (by assumption) ?_
    rotate_left
    focus (intro w hSw; (try dsimp only at hSw); go_simp; first | done | with_reducible rfl)
    try simp only [Act.put, List.setIfInBounds_toArray, List.set_cons_zero, List.set_cons_succ]
    refine wpAnyH_take (i := 5) (oi := ⟨some 6, _, _, _, _, _⟩) (v := ?_) rfl (by kernel_rfl) (by kernel_rfl) (by kernel_rfl) (fun _ _ _ h => h) (Or.inl ⟨by rfl, ?_⟩) (by assumption) ?_
    rotate_left
    focus (intro w hSw; (try dsimp only at hSw); go_simp; first | done | with_reducible rfl)
    try simp only [Act.put, List.setIfInBounds_toArray, List.set_cons_zero, List.set_cons_succ]
    refine wpAnyH_done (by kernel_rfl) ?_ _
    have HQ3 := Lib.hid hHeld.1.out
    obtain ⟨_, x0, x1, x2, x3, x4, y0, y1, y2, y3, y4⟩ := hHeld
    go_upto_region 4 with (fail)
    refine wp_region_held_drew (S := (fun w' => RowKit.Hid (Below w3.heap.size w3 w') ∧ w'.cell? ⟨w.heap.size, 0, none⟩ = some (.int .i64 k0) ∧ w'.cell? ⟨w.heap.size, 1, none⟩ = some (.string p0) ∧ w'.cell? ⟨w.heap.size, 2, none⟩ = some (.string n0) ∧ w'.cell? ⟨w.heap.size, 3, none⟩ = some (.int .i64 NN0) ∧ w'.cell? ⟨w.heap.size, 4, none⟩ = some (.slice q0 ln0 c0) ∧ w'.cell? ⟨w.heap.size + 1, 0, none⟩ = some (.int .i64 k1) ∧ w'.cell? ⟨w.heap.size + 1, 1, none⟩ = some (.string p1) ∧ w'.cell? ⟨w.heap.size + 1, 2, none⟩ = some (.string n1) ∧ w'.cell? ⟨w.heap.size + 1, 3, none⟩ = some (.int .i64 NN1) ∧ w'.cell? ⟨w.heap.size + 1, 4, none⟩ = some (.slice q1 ln1 c1))) (by kernel_rfl) (by exact ⟨Lib.hid (HQ3.out.trans (below_drewN (Below.refl _ _) 1)), x0, x1, x2, x3, x4, y0, y1, y2, y3, y4⟩) (fun hHeld => ?_)
    refine wpAnyH_take (i := 0) (oi := ⟨some 22, _, _, _, _, _⟩) (v := ?_) rfl (by kernel_rfl) (by kernel_rfl) (by kernel_rfl) (fun _ _ _ h => h) (Or.inl ⟨by rfl, ?_⟩) (by assumption) ?_
    rotate_left
    focus (intro w hSw; (try dsimp only at hSw); go_simp; first | done | with_reducible rfl)
    try simp only [Act.put, List.setIfInBounds_toArray, List.set_cons_zero, List.set_cons_succ]
    refine wpAnyH_take (i := 2) (oi := ⟨some 24, _, _, _, _, _⟩) (v := ?_) rfl (by kernel_rfl) (by kernel_rfl) (by kernel_rfl) (fun _ _ _ h => h) (Or.inl ⟨by rfl, ?_⟩) (by assumption) ?_
    rotate_left
    focus (intro w hSw; (try dsimp only at hSw); go_simp; first | done | with_reducible rfl)
    try simp only [Act.put, List.setIfInBounds_toArray, List.set_cons_zero, List.set_cons_succ]
    refine wpAnyH_ready (rs := [1]) (by kernel_rfl) (by simp) ?_
    refine AllReadyH.cons (o := ⟨some 23, _, _, _, _, _⟩) rfl (fun K hK => ?_) AllReadyH.nil
    go_simp
    (with_reducible refine (HU.out _ (HB3.out.trans (hHeld.1.out.mono HB3.out.size))).mono ?_); rintro e v1 ⟨rfl, hb⟩
    go_wp2_with fail
    refine hK.out _ _ (by exact ⟨Lib.hid (hHeld.1.out.trans (hb.mono hHeld.1.out.size)), keep_cell hb hHeld.2.1, keep_cell hb hHeld.2.2.1, keep_cell hb hHeld.2.2.2.1, keep_cell hb hHeld.2.2.2.2.1, keep_cell hb hHeld.2.2.2.2.2.1, keep_cell hb hHeld.2.2.2.2.2.2.1, keep_cell hb hHeld.2.2.2.2.2.2.2.1, keep_cell hb hHeld.2.2.2.2.2.2.2.2.1, keep_cell hb hHeld.2.2.2.2.2.2.2.2.2.1, keep_cell hb hHeld.2.2.2.2.2.2.2.2.2.2⟩) (fun hNew => ?_)
    clear hK K
    clear hHeld hb; have hHeld := hNew; clear hNew
    try simp only [Act.put, List.setIfInBounds_toArray, List.set_cons_zero, List.set_cons_succ]
    refine wpAnyH_ready (rs := [3]) (by kernel_rfl) (by simp) ?_
    refine AllReadyH.cons (o := ⟨some 25, _, _, _, _, _⟩) rfl (fun K hK => ?_) AllReadyH.nil
    go_simp
    (with_reducible refine (HV.out _ (HB3.out.trans (hHeld.1.out.mono HB3.out.size))).mono ?_); rintro e v2 ⟨rfl, hb⟩
    go_wp2_with fail
    refine hK.out _ _ (by exact ⟨Lib.hid (hHeld.1.out.trans (hb.mono hHeld.1.out.size)), keep_cell hb hHeld.2.1, keep_cell hb hHeld.2.2.1, keep_cell hb hHeld.2.2.2.1, keep_cell hb hHeld.2.2.2.2.1, keep_cell hb hHeld.2.2.2.2.2.1, keep_cell hb hHeld.2.2.2.2.2.2.1, keep_cell hb hHeld.2.2.2.2.2.2.2.1, keep_cell hb hHeld.2.2.2.2.2.2.2.2.1, keep_cell hb hHeld.2.2.2.2.2.2.2.2.2.1, keep_cell hb hHeld.2.2.2.2.2.2.2.2.2.2⟩) (fun hNew => ?_)
    clear hK K
    clear hHeld hb; have hHeld := hNew; clear hNew
    try simp only [Act.put, List.setIfInBounds_toArray, List.set_cons_zero, List.set_cons_succ]
    refine wpAnyH_take (i := 4) (oi := ⟨some 7, _, _, _, _, _⟩) (v := ?_) rfl (by kernel_rfl) (by kernel_rfl) (by kernel_rfl) (fun _ _ _ h => h) (Or.inl ⟨by rfl, ?_⟩) (by assumption) ?_
    rotate_left
    focus (intro w hSw; (try dsimp only at hSw); go_simp; first | done | with_reducible rfl)
    try simp only [Act.put, List.setIfInBounds_toArray, List.set_cons_zero, List.set_cons_succ]
    refine wpAnyH_take (i := 5) (oi := ⟨some 8, _, _, _, _, _⟩) (v := ?_) rfl (by kernel_rfl) (by kernel_rfl) (by kernel_rfl) (fun _ _ _ h => h) (Or.inl ⟨by rfl, ?_⟩) (by assumption) ?_
    rotate_left
    focus (intro w hSw; (try dsimp only at hSw); go_simp; first | done | with_reducible rfl)
    try simp only [Act.put, List.setIfInBounds_toArray, List.set_cons_zero, List.set_cons_succ]
    refine wpAnyH_done (by kernel_rfl) ?_ _
    have HQ4 := Lib.hid hHeld.1.out
    obtain ⟨_, x0, x1, x2, x3, x4, y0, y1, y2, y3, y4⟩ := hHeld
    have HB4 := Lib.hid (HB3.out.trans (HQ4.out.mono HB3.out.size))
    clear HA HC HU HV HF HF1 HR HR1 HNF HNF1
    have hS : ta = tb → RowKit.Hid (∀ W, Below w.heap.size w W → Calls Tryz.prog 24 #[tv k0 p0 n0 NN0 (.slice q0 ln0 c0), tv k1 p1 n1 NN1 (.slice q1 ln1 c1)] W fun e w' => e = .returned (.bool true) ∧ Below W.heap.size W w') := fun h => Lib.hid fun W hb => by
      have := HS0.out W hb
      unfold SameR at this
      rw [h, same_self] at this
      exact this
    have hAP := HAP.out
    unfold Apart at hAP
    clear HAP HS0
    rcases hAP with ⟨hs, rfl, ⟨rfl, hab⟩ | hne⟩ | ⟨rfl, rfl | ⟨hu, ⟨rfl, hab⟩ | hne⟩⟩
    · have HS := hS hab
      have g1 : (s.toList == []) = false := by simpa using hs
      have g2 : (s.toList != []) = true := by simpa using hs
      clear hS hab hs
      go_wp2_with (first
        | (go_at_call 24; ((with_reducible refine (HS.out _ HB4.out).mono ?_); rintro e w8 ⟨rfl, hb⟩; have HB8 := Lib.hid (HB4.out.trans (hb.mono HB4.out.size)); clear hb))
        | (go_at_call 8; ((with_reducible refine (alive_any _ (HW.out.below HB8.out)).mono ?_); rintro e w9 ⟨rfl, hb⟩; have HB9 := Lib.hid hb; clear hb)))
      go_ret
      exact ⟨rfl, HB8.out.trans (HB9.out.mono HB8.out.size)⟩
    · have g1 : (s.toList == []) = false := by simpa using hs
      have g2 : (s.toList != []) = true := by simpa using hs
      have g3 : (s.toList == t.toList) = false := by simpa using hne
      clear hS hs hne
      go_wp2_with (go_at_call 8; ((with_reducible refine (alive_any _ (HW.out.below HB4.out)).mono ?_); rintro e w9 ⟨rfl, hb⟩; have HB9 := Lib.hid hb; clear hb))
      go_ret
      exact ⟨rfl, HB4.out.trans (HB9.out.mono HB4.out.size)⟩
    · clear hS
      go_wp2_with (go_at_call 8; ((with_reducible refine (alive_any _ (HW.out.below HB4.out)).mono ?_); rintro e w9 ⟨rfl, hb⟩; have HB9 := Lib.hid hb; clear hb))
      go_ret
      exact ⟨rfl, HB4.out.trans (HB9.out.mono HB4.out.size)⟩
    · have HS := hS hab
      have g1 : (u.toList == []) = false := by simpa using hu
      have g2 : (u.toList != []) = true := by simpa using hu
      clear hS hab hu
      go_wp2_with (first
        | (go_at_call 24; ((with_reducible refine (HS.out _ HB4.out).mono ?_); rintro e w8 ⟨rfl, hb⟩; have HB8 := Lib.hid (HB4.out.trans (hb.mono HB4.out.size)); clear hb))
        | (go_at_call 8; ((with_reducible refine (alive_any _ (HW.out.below HB8.out)).mono ?_); rintro e w9 ⟨rfl, hb⟩; have HB9 := Lib.hid hb; clear hb)))
      go_ret
      exact ⟨rfl, HB8.out.trans (HB9.out.mono HB8.out.size)⟩
    · have g1 : (u.toList == []) = false := by simpa using hu
      have g2 : (u.toList != []) = true := by simpa using hu
      have g3 : (u.toList == v.toList) = false := by simpa using hne
      clear hS hu hne
      go_wp2_with (go_at_call 8; ((with_reducible refine (alive_any _ (HW.out.below HB4.out)).mono ?_); rintro e w9 ⟨rfl, hb⟩; have HB9 := Lib.hid hb; clear hb))
      go_ret
      exact ⟨rfl, HB4.out.trans (HB9.out.mono HB4.out.size)⟩
end Go.Proofs.YtmkjalnlldpdcaaGreatDoor
/- Arguments by value: tokens; what the row assumes of the listed tables: it is met by the door's own heap; what it gives. -/
namespace Go.Proofs.YtmkjalnlldpdcaaGreatDoor
open Go.ChangeShapes Go.WideShapes Go.ChangeAt Go.RowKit Go.Joins Go.Deep
open Go.ChangeMaps (open_string shut_string)
set_option maxRecDepth 100000
set_option linter.unusedSimpArgs false
set_option linter.unusedVariables false
theorem ownKn : ownKnob Tryz.prog.godebug = none := by kernel_rfl
theorem laidTry : laidOutB Tryz.prog = true := by kernel_rfl
theorem gE : Tryz.prog.globalNamed "touchstone/lex.escapes" = some 0 := by kernel_rfl
theorem tE : (Tryz.prog.globals[0]?).map (·.type) = some 230 := by kernel_rfl
theorem gP : Tryz.prog.globalNamed "internal/strconv.uint64pow10" = some 1 := by kernel_rfl
theorem tP : (Tryz.prog.globals[1]?).map (·.type) = some 242 := by kernel_rfl
theorem dP : (Rows.laid_internal_strconv_uint64pow10 : DataW Unit) = Lib.tabData .u64 Lib.pow10Tab := by kernel_rfl
theorem cells230 : Tryz.prog.cellsOf 230 = 8 := by kernel_rfl
theorem cells229 : Tryz.prog.cellsOf 229 = 2 := by kernel_rfl
theorem cells5 : Tryz.prog.cellsOf 5 = 1 := by kernel_rfl
theorem pair_cells {fuel : Nat} {W : World} {c0 c1 : Value} {x y : Int} {p : List MemPlace} (h : DataW.trod (fun _ => ()) Tryz.prog W 0 (fun _ => true) false fuel 229 [c0, c1] = some (.agg [.lit (.int .u8 x), .lit (.int .u8 y)], p)) : c0 = .int .u8 x ∧ c1 = .int .u8 y := by
  obtain ⟨ys, n, _, hx, _, hys, hfs⟩ := DataW.trod_struct Tryz.underlying229 h
  have hy2 : ys.length = 2 := hys
  match ys, hy2 with
  | [y0, y1], _ =>
    have g0 : DataW.trod (fun _ => ()) Tryz.prog W 0 (fun _ => true) false n 5 (([c0, c1].drop 0).take (Tryz.prog.cellsOf 5)) = some y0 := hfs 0 _ rfl
    have g1 : DataW.trod (fun _ => ()) Tryz.prog W 0 (fun _ => true) false n 5 (([c0, c1].drop 1).take (Tryz.prog.cellsOf 5)) = some y1 := hfs 1 _ rfl
    rw [cells5] at g0 g1
    obtain ⟨z0, e0, f0, _⟩ := DataW.trod_int Tryz.underlying5 g0
    obtain ⟨z1, e1, f1, _⟩ := DataW.trod_int Tryz.underlying5 g1
    subst f0 f1
    simp at hx e0 e1
    obtain ⟨⟨h1, h2⟩, _⟩ := hx
    subst h1 h2 e0 e1
    exact ⟨rfl, rfl⟩
theorem esc_cells {fuel : Nat} {W : World} {cs : List Value} {p : List MemPlace} (h : DataW.trod (fun _ => ()) Tryz.prog W 0 (fun _ => true) false fuel 230 cs = some (Rows.laid_touchstone_lex_escapes, p)) :
    cs = [.int .u8 92, .int .u8 92, .int .u8 34, .int .u8 34, .int .u8 110, .int .u8 10, .int .u8 116, .int .u8 9] := by
  obtain ⟨xs, m, _, hx, hl, hxl, hf⟩ := DataW.trod_array Tryz.underlying230 h
  rw [cells230] at hl
  match cs, hl, xs, hxl with
  | [c0, c1, c2, c3, c4, c5, c6, c7], _, [x0, x1, x2, x3], _ =>
    have f0 := hf 0 (by omega)
    have f1 := hf 1 (by omega)
    have f2 := hf 2 (by omega)
    have f3 := hf 3 (by omega)
    rw [cells229] at f0 f1 f2 f3
    unfold Rows.laid_touchstone_lex_escapes at hx
    simp only [List.map_cons, List.map_nil, Prod.mk.injEq, DataW.agg.injEq, List.cons.injEq, and_true] at hx
    obtain ⟨⟨h0, h1, h2, h3⟩, _⟩ := hx
    obtain ⟨d0, p0⟩ := x0
    obtain ⟨d1, p1⟩ := x1
    obtain ⟨d2, p2⟩ := x2
    obtain ⟨d3, p3⟩ := x3
    simp only [] at h0 h1 h2 h3
    subst h0 h1 h2 h3
    obtain ⟨rfl, rfl⟩ := pair_cells f0
    obtain ⟨rfl, rfl⟩ := pair_cells f1
    obtain ⟨rfl, rfl⟩ := pair_cells f2
    obtain ⟨rfl, rfl⟩ := pair_cells f3
    rfl
/-- What the listed tables give. -/
theorem tabs_of {W : World} (h : laidMetH Tryz.prog Rows.printTermsRow.laid W) : LxW W := by
  rw [MakeChecks.laidMetH_plain _ _ _ (by kernel_rfl)] at h
  obtain ⟨ps, ⟨g0, t0, cs0, f0, p0, q0, _, _, _, _, ⟨g1, t1, cs1, f1, p1, q1, _, _, _, _, ⟨g2, t2, cs2, f2, p2, q2, hg2, ht2, hv2, hd2, ⟨g3, t3, cs3, f3, p3, q3, _, _, _, _, ⟨g4, t4, cs4, f4, p4, q4, _, _, _, _, ⟨g5, t5, cs5, f5, p5, q5, hg5, ht5, hv5, hd5, _, e5⟩, e4⟩, e3⟩, e2⟩, e1⟩, e0⟩, _, hps⟩ := h
  constructor
  · obtain rfl := Option.some.inj (gE.symm.trans hg5)
    obtain rfl := Option.some.inj (tE.symm.trans ht5)
    have hc := esc_cells hd5
    have hsz : cs5.size = 8 := by
      have := congrArg List.length hc
      simpa using this
    have hmem : MemPlace.cell 0 0 ∈ ps := by
      rw [e0, e1, e2, e3, e4, e5]
      simp only [List.mem_append]
      refine .inr (.inr (.inr (.inr (.inr (.inl (.inl ?_))))))
      rw [hsz]
      decide
    obtain ⟨⟨c, t, hh⟩, _⟩ := hps 0 0 hmem
    refine ⟨t, ?_⟩
    unfold World.var? at hv5
    rw [gE] at hv5
    simp only [Option.bind_some, hh, Option.some.injEq] at hv5
    subst hv5
    rw [hh]
    congr 2
    apply Array.ext'
    exact hc
  · obtain rfl := Option.some.inj (gP.symm.trans hg2)
    obtain rfl := Option.some.inj (tP.symm.trans ht2)
    rw [dP] at hd2
    have hc := Lib.cells_of_tab Tryz.underlying242 Tryz.underlying232 (by kernel_rfl) (by kernel_rfl) hd2
    refine Lib.tabBelow_of_tabIs ?_
    unfold Lib.TabIs
    rw [hv2, ← hc]
end Go.Proofs.YtmkjalnlldpdcaaGreatDoor
