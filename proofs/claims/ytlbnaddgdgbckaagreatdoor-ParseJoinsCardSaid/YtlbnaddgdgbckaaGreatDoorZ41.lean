/- Texts in a row: Rg Rh. -/
import Derived.Test.YtlbnaddgdgbckaaGreatDoorZ40
/- More tokens behind: what was read stays so, where a shut or a keyword follows. -/
namespace Go.Proofs.YtlbnaddgdgbckaaGreatDoor
set_option linter.unusedSimpArgs false
set_option linter.unusedVariables false
variable {α β : Type}
/-- What may follow. -/
def Inert (r : Ts) : Prop := (kd r = 8 ∧ tx r = sShut) ∨ kd r = 7
def ExtAt (f : Ts → Res α) (ts : Ts) : Prop := ∀ a ts', f ts = .ok (a, ts') → ∀ r, Inert r → f (ts ++ r) = .ok (a, ts' ++ r)
def Ext1 (f : Ts → Res α) : Prop := ∀ ts, ExtAt f ts
def ExtC (f : Ts → Res α) : Prop := ∀ t us, ExtAt f (t :: us)
def Never (f : Ts → Res α) : Prop := ∀ a ts', f [] ≠ .ok (a, ts')
theorem Ext1.c {f : Ts → Res α} (h : Ext1 f) : ExtC f := fun t us => h _
theorem Ext1.tail {f : Ts → Res α} (h : Ext1 f) : ExtC fun ts => f ts.tail := fun t us => h us
theorem Ext1.bnd {f : Ts → Res α} {g : α → Ts → Res β} (hf : Ext1 f) (hg : ∀ a, Ext1 (g a)) : Ext1 fun ts => bnd (f ts) g := by
  intro ts b ts2 h r hr
  dsimp only at h ⊢
  cases hx : f ts with
  | error e => rw [hx] at h; cases h
  | ok y =>
    rw [hx] at h
    rw [hf ts y.1 y.2 hx r hr]
    exact hg y.1 y.2 b ts2 h r hr
theorem ExtC.bnd {f : Ts → Res α} {g : α → Ts → Res β} (hf : ExtC f) (hg : ∀ a, Ext1 (g a)) : ExtC fun ts => bnd (f ts) g := by
  intro t us b ts2 h r hr
  dsimp only at h ⊢
  cases hx : f (t :: us) with
  | error e => rw [hx] at h; cases h
  | ok y =>
    rw [hx] at h
    rw [hf t us y.1 y.2 hx r hr]
    exact hg y.1 y.2 b ts2 h r hr
theorem Ext1.ok (a : α) : Ext1 fun ts => (.ok (a, ts) : Res α) := fun ts b ts' h r hr => by cases h; rfl
theorem Ext1.die (E e : Nat) : Ext1 fun ts => (die E ts e : Res α) := fun ts b ts' h r hr => by cases h
/-- A test of the head. -/
structure HeadT (c : Ts → Prop) : Prop where
  head : ∀ t us r, c ((t :: us) ++ r) ↔ c (t :: us)
  nil : ¬ c []
theorem head_kd {k : Int} (hk : k ≠ 0) : HeadT fun ts => kd ts = k := ⟨fun _ _ _ => Iff.rfl, fun h => hk h.symm⟩
theorem head_isB {k : Int} (x : ByteArray) (hk : k ≠ 0) : HeadT fun ts => isB k x ts = true := ⟨fun _ _ _ => Iff.rfl, fun h => hk (isB_kd h).1.symm⟩
theorem head_begB : HeadT fun ts => begB ts = true := ⟨fun _ _ _ => Iff.rfl, fun h => by revert h; decide⟩
theorem Ext1.ite1 {c : Ts → Prop} [∀ ts, Decidable (c ts)] (hc : HeadT c) (h0 : ∀ r, Inert r → ¬ c r) {f g : Ts → Res α} (hf : ExtC f) (hg : Ext1 g) : Ext1 fun ts => if c ts then f ts else g ts := by
  intro ts b ts2 h r hr
  dsimp only at h ⊢
  cases ts with
  | nil =>
    rw [if_neg hc.nil] at h
    rw [List.nil_append, if_neg (h0 r hr)]
    exact hg [] b ts2 h r hr
  | cons t us =>
    by_cases ht : c (t :: us)
    · rw [if_pos ht] at h
      rw [if_pos ((hc.head t us r).2 ht)]
      exact hf t us b ts2 h r hr
    · rw [if_neg ht] at h
      rw [if_neg (fun e => ht ((hc.head t us r).1 e))]
      exact hg _ b ts2 h r hr
theorem Ext1.ite2 {c : Ts → Prop} [∀ ts, Decidable (c ts)] (hc : HeadT c) {f g : Ts → Res α} (hf : ExtC f) (hg : Ext1 g) (hn : Never g) : Ext1 fun ts => if c ts then f ts else g ts := by
  intro ts b ts2 h r hr
  dsimp only at h ⊢
  cases ts with
  | nil =>
    rw [if_neg hc.nil] at h
    exact absurd h (hn b ts2)
  | cons t us =>
    by_cases ht : c (t :: us)
    · rw [if_pos ht] at h
      rw [if_pos ((hc.head t us r).2 ht)]
      exact hf t us b ts2 h r hr
    · rw [if_neg ht] at h
      rw [if_neg (fun e => ht ((hc.head t us r).1 e))]
      exact hg _ b ts2 h r hr
theorem inert_kd {k : Int} (h7 : k ≠ 7) (h8 : k ≠ 8) : ∀ r, Inert r → ¬ kd r = k := by
  rintro r (⟨h, _⟩ | h) e
  · exact h8 (e ▸ h)
  · exact h7 (e ▸ h)
theorem inert_isB {x : ByteArray} (hx : x ≠ sShut) : ∀ r, Inert r → ¬ isB 8 x r = true := by
  rintro r (⟨h, h2⟩ | h) e
  · have h3 := e
    unfold isB at h3
    rw [Bool.and_eq_true, decide_eq_true_iff, decide_eq_true_iff] at h3
    exact hx (h3.2.symm.trans h2)
  · have := (isB_kd e).1
    omega
theorem never_die (E e : Nat) : Never fun ts => (die E ts e : Res α) := fun _ _ h => by cases h
theorem ext_txt : ExtC fun ts => (.ok (tx ts, ts.tail) : Res ByteArray) := fun t us b ts' h r hr => by cases h; rfl
theorem ext_drop (a : α) : ExtC fun ts => (.ok (a, ts.tail) : Res α) := fun t us b ts' h r hr => by cases h; rfl
theorem takeP_x (E : Nat) {k : Int} (hk : k ≠ 0) : Ext1 (takeP E k) := Ext1.ite2 (head_kd hk) ext_txt (Ext1.die E 10) (never_die E 10)
theorem keyP_x (E : Nat) {k : Int} (hk : k ≠ 0) (x : ByteArray) : Ext1 (keyP E k x) := Ext1.ite2 (head_isB x hk) (ext_drop ()) (Ext1.die E 10) (never_die E 10)
theorem sevF_x {E : Nat} {bt : ByteArray} (hb : bt ≠ sShut) {f : Ts → Res α} (hf : Ext1 f) : ∀ (n m : Nat), n ≤ m → ∀ (ts : Ts) (acc : List α) (a : List α) (ts' : Ts), sevF E bt f n ts acc = .ok (a, ts') → ∀ r, Inert r → sevF E bt f m (ts ++ r) acc = .ok (a, ts' ++ r)
  | 0, m, _, ts, acc, a, ts', h, r, hr => by cases h
  | n + 1, 0, hm, ts, acc, a, ts', h, r, hr => by omega
  | n + 1, m + 1, hm, ts, acc, a, ts', h, r, hr => by
    unfold sevF at h ⊢
    cases ts with
    | nil =>
      rw [if_neg (head_isB bt (by decide)).nil] at h
      rw [List.nil_append, if_neg (inert_isB hb r hr)]
      cases h
      rfl
    | cons t us =>
      by_cases ht : isB 8 bt (t :: us) = true
      · rw [if_pos ht] at h
        rw [if_pos (((head_isB bt (by decide)).head t us r).2 ht)]
        rw [List.tail_cons] at h
        cases hx : f us with
        | error e => rw [hx] at h; cases h
        | ok y =>
          rw [hx] at h
          show Proofs.YtlbnaddgdgbckaaGreatDoor.bnd (f (us ++ r)) _ = _
          rw [hf us y.1 y.2 hx r hr]
          exact sevF_x hb hf n m (by omega) _ _ _ _ h r hr
      · rw [if_neg ht] at h
        rw [if_neg (fun e => ht (((head_isB bt (by decide)).head t us r).1 e))]
        cases h
        rfl
theorem sevL_x {E : Nat} {bt : ByteArray} (hb : bt ≠ sShut) {f : Ts → Res α} (hf : Ext1 f) (acc : List α) : Ext1 fun ts => sevL E bt f ts acc := fun ts a ts' h r hr =>
  sevF_x hb hf _ _ (by rw [List.length_append]; omega) ts acc a ts' h r hr
theorem sevP_x {E : Nat} {bt : ByteArray} (hb : bt ≠ sShut) {f : Ts → Res α} (hf : Ext1 f) : Ext1 (sevP E bt f) := Ext1.bnd hf fun a => sevL_x hb hf [a]
theorem never_bnd {f : Ts → Res α} {g : α → Ts → Res β} (h : Never f) : Never fun ts => bnd (f ts) g := fun b ts' e => by
  dsimp only at e
  cases hx : f [] with
  | error p => rw [hx] at e; cases e
  | ok y => exact h y.1 y.2 hx
theorem heldP_x {E : Nat} {f : Ts → Res α} (hf : Ext1 f) : Ext1 (heldP E f) :=
  Ext1.ite1 (head_isB sOpen (by decide)) (inert_isB (by decide)) (ExtC.bnd (sevP_x (by decide) hf).tail fun l => Ext1.bnd (keyP_x E (by decide) sShut) fun _ => Ext1.ok l) (Ext1.ok [])
theorem openP_x {E : Nat} {f : Ts → Res Tm} (hf : Ext1 f) (hn : Never f) : Ext1 (openP E f) :=
  Ext1.bnd (keyP_x E (by decide) sOpen) fun _ => Ext1.ite2 (head_isB sShut (by decide)) (Ext1.ok []).c (sevP_x (by decide) hf) (never_bnd hn)
theorem shutP_x {E : Nat} {k : Int} {l : List Tm} : Ext1 (shutP E k l) := Ext1.bnd (keyP_x E (by decide) sShut) fun _ => Ext1.ok _
theorem never_ite {c : Ts → Prop} [∀ ts, Decidable (c ts)] (hc : HeadT c) {f g : Ts → Res α} (hg : Never g) : Never fun ts => if c ts then f ts else g ts := fun a ts' h => by
  dsimp only at h
  rw [if_neg hc.nil] at h
  exact hg a ts' h
theorem never_take (E : Nat) {k : Int} (hk : k ≠ 0) : Never (takeP E k) := never_ite (head_kd hk) (never_die E 10)
theorem never_key (E : Nat) {k : Int} (hk : k ≠ 0) (x : ByteArray) : Never (keyP E k x) := never_ite (head_isB x hk) (never_die E 10)
theorem never_open (E : Nat) (f : Ts → Res Tm) : Never (openP E f) := never_bnd (never_key E (by decide) sOpen)
theorem conP_x {E : Nat} {k : Int} {p : ByteArray} {f : Ts → Res Tm} (hf : Ext1 f) : Ext1 (conP E k p f) := Ext1.bnd (takeP_x E (by decide)) fun s => Ext1.bnd (heldP_x hf) fun l => Ext1.ok _
theorem tyConP_x {E : Nat} {p : ByteArray} {f : Ts → Res Tm} (hf : Ext1 f) : Ext1 (tyConP E p f) := Ext1.bnd (takeP_x E (by decide)) fun s => Ext1.bnd (heldP_x hf) fun l => Ext1.ok _
theorem tyAtomP_x {E : Nat} {f : Ts → Res Tm} (hf : Ext1 f) (hn : Never f) : Ext1 (tyAtomP E f) :=
  Ext1.ite1 (head_kd (by decide)) (inert_kd (by decide) (by decide)) (Ext1.bnd (takeP_x E (by decide)) fun s => Ext1.ok _).c
    (Ext1.ite1 (head_kd (by decide)) (inert_kd (by decide) (by decide)) (Ext1.bnd (takeP_x E (by decide)) fun p => Ext1.bnd (keyP_x E (by decide) sDot) fun _ => tyConP_x hf).c
      (Ext1.ite1 (head_kd (by decide)) (inert_kd (by decide) (by decide)) (tyConP_x hf).c (Ext1.bnd (openP_x hf hn) fun l => shutP_x)))
theorem never_tyAtom (E : Nat) (f : Ts → Res Tm) : Never (tyAtomP E f) := never_ite (head_kd (by decide)) (never_ite (head_kd (by decide)) (never_ite (head_kd (by decide)) (never_bnd (never_open E f))))
theorem never_typ (E : Nat) : ∀ g, Never (typP E g)
  | 0 => never_die E 9
  | g + 1 => never_bnd (never_tyAtom E _)
theorem typP_x (E : Nat) : ∀ g, Ext1 (typP E g)
  | 0 => Ext1.die E 9
  | g + 1 => Ext1.bnd (tyAtomP_x (typP_x E g) (never_typ E g)) fun t => Ext1.ite1 (head_isB sArrow (by decide)) (inert_isB (by decide)) (ExtC.bnd (typP_x E g).tail fun u => Ext1.ok _) (Ext1.ok _)
theorem annP_x {E : Nat} {f : Ts → Res Tm} (hf : Ext1 f) : Ext1 (annP E f) := Ext1.ite1 (head_isB sColon (by decide)) (inert_isB (by decide)) (ExtC.bnd hf.tail fun t => Ext1.ok _) (Ext1.ok _)
theorem num_x (E : Nat) (F : Int → Tm) : ExtC fun ts => bnd (takeP E 4 ts) fun _ ts' => (.ok (F (nx 0 ts).1.n, ts') : Res Tm) := by
  intro t us a ts' h r hr
  dsimp only at h ⊢
  cases hx : takeP E 4 (t :: us) with
  | error e => rw [hx] at h; cases h
  | ok y =>
    rw [hx] at h
    rw [takeP_x E (by decide) (t :: us) y.1 y.2 hx r hr]
    cases h
    rfl
theorem qualP_x (E : Nat) : ExtC (qualP E) := by
  intro t us a ts' h r hr
  unfold qualP at h ⊢
  cases us with
  | nil =>
    rw [List.tail_cons, if_neg (head_isB sDot (by decide)).nil] at h
    cases h
    show (if isB 8 sDot r = true then _ else _) = _
    rw [if_neg (inert_isB (by decide) r hr)]
  | cons u vs =>
    have hh := (head_isB sDot (k := 8) (by decide)).head u vs r
    rw [List.tail_cons] at h
    show (if isB 8 sDot ((u :: vs) ++ r) = true then _ else _) = _
    by_cases ht : isB 8 sDot (u :: vs) = true
    · rw [if_pos ht] at h
      rw [if_pos (hh.2 ht)]
      exact (Ext1.bnd (takeP_x E (by decide)) fun p => Ext1.bnd (keyP_x E (by decide) sDot) fun _ => Ext1.ok p) (t :: u :: vs) a ts' h r hr
    · rw [if_neg ht] at h
      rw [if_neg (fun e => ht (hh.1 e))]
      cases h
      rfl
end Go.Proofs.YtlbnaddgdgbckaaGreatDoor
/- More tokens behind: patterns, expressions. -/
namespace Go.Proofs.YtlbnaddgdgbckaaGreatDoor
set_option linter.unusedSimpArgs false
set_option linter.unusedVariables false
variable {α β : Type}
theorem never_pat (E : Nat) : ∀ g, Never (patP E g)
  | 0 => never_die E 9
  | g + 1 => never_ite (head_kd (by decide)) (never_ite (head_kd (by decide)) (never_ite (head_kd (by decide)) (never_ite (head_kd (by decide)) (never_ite (head_isB sAny (by decide)) (never_bnd (never_open E _))))))
theorem patP_x (E : Nat) : ∀ g, Ext1 (patP E g)
  | 0 => Ext1.die E 9
  | g + 1 => Ext1.ite1 (head_kd (by decide)) (inert_kd (by decide) (by decide)) (Ext1.bnd (takeP_x E (by decide)) fun s => Ext1.ok _).c
      (Ext1.ite1 (head_kd (by decide)) (inert_kd (by decide) (by decide)) (num_x E fun n => .mk 13 e0 e0 n [])
        (Ext1.ite1 (head_kd (by decide)) (inert_kd (by decide) (by decide)) (Ext1.bnd (takeP_x E (by decide)) fun s => Ext1.ok _).c
          (Ext1.ite1 (head_kd (by decide)) (inert_kd (by decide) (by decide)) (ExtC.bnd (qualP_x E) fun p => conP_x (patP_x E g))
            (Ext1.ite1 (head_isB sAny (by decide)) (inert_isB (by decide)) (ext_drop _) (Ext1.bnd (openP_x (patP_x E g) (never_pat E g)) fun l => shutP_x)))))
theorem inert_begB : ∀ r, Inert r → ¬ begB r = true := by
  intro r hr e
  unfold begB at e
  have h4 := inert_kd (k := 4) (by decide) (by decide) r hr
  have h5 := inert_kd (k := 5) (by decide) (by decide) r hr
  have h1 := inert_kd (k := 1) (by decide) (by decide) r hr
  have h2 := inert_kd (k := 2) (by decide) (by decide) r hr
  have h8 := inert_isB (x := sOpen) (by decide) r hr
  simp [h4, h5, h1, h2] at e
  exact h8 e
theorem appF_x {E : Nat} {f : Ts → Res Tm} (hf : Ext1 f) : ∀ (k : Nat) (t : Tm), Ext1 fun ts => appF E f k t ts
  | 0, t => Ext1.ite1 head_begB inert_begB (Ext1.die E 9).c (Ext1.ok t)
  | k + 1, t => Ext1.ite1 head_begB inert_begB (Ext1.bnd hf fun a => appF_x hf k _).c (Ext1.ok t)
theorem appP_x {E : Nat} {f : Ts → Res Tm} (hf : Ext1 f) : Ext1 (appP E f) := Ext1.bnd hf fun t => appF_x hf 50 t
theorem varP_x (E : Nat) (p : ByteArray) : Ext1 (varP E p) := Ext1.bnd (takeP_x E (by decide)) fun s => Ext1.ok _
theorem head_one {l : List Tm} : HeadT fun ts => l.length = 1 ∧ isB 8 sColon ts = true := ⟨fun t us r => Iff.rfl, fun h => (head_isB sColon (k := 8) (by decide)).nil h.2⟩
theorem atomP_x {E : Nat} {f f' : Ts → Res Tm} (hf : Ext1 f) (hn : Never f) (ht : Ext1 f') : Ext1 (atomP E f f') :=
  Ext1.ite1 (head_kd (by decide)) (inert_kd (by decide) (by decide)) (num_x E fun n => .mk 22 e0 e0 n [])
    (Ext1.ite1 (head_kd (by decide)) (inert_kd (by decide) (by decide)) (Ext1.bnd (takeP_x E (by decide)) fun s => Ext1.ok _).c
      (Ext1.ite1 (head_kd (by decide)) (inert_kd (by decide) (by decide)) (ExtC.bnd (qualP_x E) fun p => Ext1.ite1 (head_kd (by decide)) (inert_kd (by decide) (by decide)) (conP_x hf).c (varP_x E p))
        (Ext1.ite1 (head_kd (by decide)) (inert_kd (by decide) (by decide)) (varP_x E e0).c
          (Ext1.bnd (openP_x hf hn) fun l => Ext1.ite1 head_one (fun r hr h => inert_isB (by decide) r hr h.2) (Ext1.bnd (annP_x ht) fun a => shutP_x).c shutP_x))))
theorem never_atom (E : Nat) (f f' : Ts → Res Tm) : Never (atomP E f f') :=
  never_ite (head_kd (by decide)) (never_ite (head_kd (by decide)) (never_ite (head_kd (by decide)) (never_ite (head_kd (by decide)) (never_bnd (never_open E f)))))
theorem funP_x {E : Nat} {f : Ts → Res Tm} (hf : Ext1 f) : Ext1 (funP E f) := Ext1.bnd (takeP_x E (by decide)) fun s => Ext1.bnd (keyP_x E (by decide) sArrow) fun _ => Ext1.bnd hf fun x => Ext1.ok _
theorem letR_x {E : Nat} {f f' : Ts → Res Tm} (hf : Ext1 f) (ht : Ext1 f') (N : Int) : Ext1 (letR E f f' N) :=
  Ext1.bnd (takeP_x E (by decide)) fun s => Ext1.bnd (annP_x ht) fun a => Ext1.bnd (keyP_x E (by decide) sEq) fun _ => Ext1.bnd hf fun x => Ext1.bnd (keyP_x E (by decide) kIn) fun _ => Ext1.bnd hf fun y => Ext1.ok _
theorem never_letR (E : Nat) (f f' : Ts → Res Tm) (N : Int) : Never (letR E f f' N) := never_bnd (never_take E (by decide))
theorem letP_x {E : Nat} {f f' : Ts → Res Tm} (hf : Ext1 f) (ht : Ext1 f') : Ext1 (letP E f f') := Ext1.ite2 (head_isB kRec (by decide)) (letR_x hf ht 1).tail (letR_x hf ht 0) (never_letR E f f' 0)
theorem armP_x {E : Nat} {f f' : Ts → Res Tm} (hp : Ext1 f) (hf : Ext1 f') : Ext1 (armP E f f') := Ext1.bnd hp fun p => Ext1.bnd (keyP_x E (by decide) sArrow) fun _ => Ext1.bnd hf fun x => Ext1.ok _
theorem matP_x {E : Nat} {f f' : Ts → Res Tm} (hp : Ext1 f) (hf : Ext1 f') : Ext1 (matP E f f') :=
  Ext1.bnd hf fun x => Ext1.bnd (keyP_x E (by decide) kWith) fun _ => Ext1.bnd (sevP_x (by decide) (armP_x hp hf)) fun l => Ext1.bnd (keyP_x E (by decide) kEnd) fun _ => Ext1.ok _
theorem never_app (E : Nat) {f : Ts → Res Tm} (h : Never f) : Never (appP E f) := never_bnd h
theorem never_expr (E : Nat) : ∀ g, Never (exprP E g)
  | 0 => never_die E 9
  | g + 1 => never_ite (head_isB kFun (by decide)) (never_ite (head_isB kLet (by decide)) (never_ite (head_isB kMatch (by decide)) (never_app E (never_atom E _ _))))
theorem exprP_x (E : Nat) : ∀ g, Ext1 (exprP E g)
  | 0 => Ext1.die E 9
  | g + 1 => Ext1.ite2 (head_isB kFun (by decide)) (funP_x (exprP_x E g)).tail
      (Ext1.ite2 (head_isB kLet (by decide)) (letP_x (exprP_x E g) (typP_x E g)).tail
        (Ext1.ite2 (head_isB kMatch (by decide)) (matP_x (patP_x E g) (exprP_x E g)).tail (appP_x (atomP_x (exprP_x E g) (never_expr E g) (typP_x E g))) (never_app E (never_atom E _ _)))
        (never_ite (head_isB kMatch (by decide)) (never_app E (never_atom E _ _))))
      (never_ite (head_isB kLet (by decide)) (never_ite (head_isB kMatch (by decide)) (never_app E (never_atom E _ _))))
end Go.Proofs.YtlbnaddgdgbckaaGreatDoor
