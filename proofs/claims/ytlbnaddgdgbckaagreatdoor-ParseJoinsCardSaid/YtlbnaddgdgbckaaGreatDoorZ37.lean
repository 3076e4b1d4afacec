/- Texts in a row: Rb Rc. -/
import Derived.Test.YtlbnaddgdgbckaaGreatDoorZ34
import Derived.Test.YtlbnaddgdgbckaaGreatDoorZ36
import Derived.Test.YtlbnaddgdgbckaaGreatDoorZ27
/- Where tokens stand changes nothing of what is read, but the place of a fault. -/
namespace Go.Proofs.YtlbnaddgdgbckaaGreatDoor
set_option linter.unusedSimpArgs false
set_option linter.unusedVariables false
/-- The same tokens, at other places. -/
def Eqv (ts us : Ts) : Prop := ts.map (·.1) = us.map (·.1)
theorem Eqv.len {ts us : Ts} (h : Eqv ts us) : ts.length = us.length := by have := congrArg List.length h; simpa using this
theorem Eqv.tail {ts us : Ts} (h : Eqv ts us) : Eqv ts.tail us.tail := by unfold Eqv at *; rw [List.map_tail, List.map_tail, h]
theorem Eqv.nx {ts us : Ts} (h : Eqv ts us) (E E' : Nat) : (nx E ts).1 = (Proofs.YtlbnaddgdgbckaaGreatDoor.nx E' us).1 := by
  cases ts with
  | nil => cases us with
    | nil => rfl
    | cons u us => cases h
  | cons t ts => cases us with
    | nil => cases h
    | cons u us => exact (List.cons.inj h).1
theorem Eqv.kd {ts us : Ts} (h : Eqv ts us) : kd ts = Proofs.YtlbnaddgdgbckaaGreatDoor.kd us := congrArg Tk.k (h.nx 0 0)
theorem Eqv.tx {ts us : Ts} (h : Eqv ts us) : tx ts = Proofs.YtlbnaddgdgbckaaGreatDoor.tx us := congrArg Tk.s (h.nx 0 0)
theorem Eqv.isB {ts us : Ts} (h : Eqv ts us) (k : Int) (x : ByteArray) : isB k x ts = Proofs.YtlbnaddgdgbckaaGreatDoor.isB k x us := by unfold Proofs.YtlbnaddgdgbckaaGreatDoor.isB; rw [h.kd, h.tx]
theorem Eqv.begB {ts us : Ts} (h : Eqv ts us) : begB ts = Proofs.YtlbnaddgdgbckaaGreatDoor.begB us := by unfold Proofs.YtlbnaddgdgbckaaGreatDoor.begB; rw [h.kd, h.isB]
variable {α β : Type}
/-- The same answer, but for places. -/
def SimR (x y : Res α) : Prop := match x, y with
  | .ok a, .ok b => a.1 = b.1 ∧ Eqv a.2 b.2
  | .error p, .error q => p.2 = q.2
  | _, _ => False
def Sim1 (f g : Ts → Res α) : Prop := ∀ ts us, Eqv ts us → SimR (f ts) (g us)
theorem SimR.ok {a : α} {ts us : Ts} (h : Eqv ts us) : SimR (.ok (a, ts)) (.ok (a, us)) := ⟨rfl, h⟩
theorem SimR.die {E E' e : Nat} {ts us : Ts} : SimR (die E ts e : Res α) (die E' us e) := rfl
theorem SimR.bnd {x y : Res α} {f g : α → Ts → Res β} (h : SimR x y) (hf : ∀ a ts us, Eqv ts us → SimR (f a ts) (g a us)) : SimR (bnd x f) (bnd y g) := by
  cases x with
  | error p => cases y with
    | error q => exact h
    | ok b => exact h.elim
  | ok a => cases y with
    | error q => exact h.elim
    | ok b =>
      obtain ⟨a, ts⟩ := a
      obtain ⟨b, us⟩ := b
      obtain ⟨h1, h2⟩ := h
      obtain rfl : a = b := h1
      exact hf a ts us h2
theorem SimR.ite {c d : Prop} [Decidable c] [Decidable d] {x y x' y' : Res α} (h : c ↔ d) (h1 : SimR x y) (h2 : SimR x' y') : SimR (if c then x else x') (if d then y else y') := by
  by_cases hc : c
  · rw [if_pos hc, if_pos (h.1 hc)]; exact h1
  · rw [if_neg hc, if_neg (fun e => hc (h.2 e))]; exact h2
theorem iff_kd {ts us : Ts} (h : Eqv ts us) (k : Int) : (kd ts = k) ↔ (kd us = k) := by rw [h.kd]
theorem iff_isB {ts us : Ts} (h : Eqv ts us) (k : Int) (x : ByteArray) : (isB k x ts = true) ↔ (isB k x us = true) := by rw [h.isB]
theorem takeP_s {E E' : Nat} (k : Int) {ts us : Ts} (h : Eqv ts us) : SimR (takeP E k ts) (takeP E' k us) := by
  unfold takeP
  refine SimR.ite (iff_kd h k) ?_ SimR.die
  rw [h.tx]
  exact SimR.ok h.tail
theorem keyP_s {E E' : Nat} (k : Int) (x : ByteArray) {ts us : Ts} (h : Eqv ts us) : SimR (keyP E k x ts) (keyP E' k x us) := SimR.ite (iff_isB h k x) (SimR.ok h.tail) SimR.die
theorem sevF_s {E E' : Nat} {bt : ByteArray} {f g : Ts → Res α} (hs : Sim1 f g) : ∀ (n : Nat) (ts us : Ts) (acc : List α), Eqv ts us → SimR (sevF E bt f n ts acc) (sevF E' bt g n us acc)
  | 0, ts, us, acc, h => SimR.die
  | n + 1, ts, us, acc, h => SimR.ite (iff_isB h 8 bt) (SimR.bnd (hs _ _ h.tail) fun a ts us h => sevF_s hs n ts us _ h) (SimR.ok h)
theorem sevL_s {E E' : Nat} {bt : ByteArray} {f g : Ts → Res α} (hs : Sim1 f g) {ts us : Ts} {acc : List α} (h : Eqv ts us) : SimR (sevL E bt f ts acc) (sevL E' bt g us acc) := by
  unfold sevL
  rw [h.len]
  exact sevF_s hs _ _ _ _ h
theorem sevP_s {E E' : Nat} {bt : ByteArray} {f g : Ts → Res α} (hs : Sim1 f g) {ts us : Ts} (h : Eqv ts us) : SimR (sevP E bt f ts) (sevP E' bt g us) := SimR.bnd (hs _ _ h) fun a ts us h => sevL_s hs h
theorem heldP_s {E E' : Nat} {f g : Ts → Res α} (hs : Sim1 f g) {ts us : Ts} (h : Eqv ts us) : SimR (heldP E f ts) (heldP E' g us) :=
  SimR.ite (iff_isB h 8 sOpen) (SimR.bnd (sevP_s hs h.tail) fun l ts us h => SimR.bnd (keyP_s 8 sShut h) fun _ ts us h => SimR.ok h) (SimR.ok h)
theorem openP_s {E E' : Nat} {f g : Ts → Res Tm} (hs : Sim1 f g) {ts us : Ts} (h : Eqv ts us) : SimR (openP E f ts) (openP E' g us) :=
  SimR.bnd (keyP_s 8 sOpen h) fun _ ts us h => SimR.ite (iff_isB h 8 sShut) (SimR.ok h) (sevP_s hs h)
theorem shutP_s {E E' : Nat} {k : Int} {l : List Tm} {ts us : Ts} (h : Eqv ts us) : SimR (shutP E k l ts) (shutP E' k l us) := SimR.bnd (keyP_s 8 sShut h) fun _ ts us h => SimR.ok h
theorem conP_s {E E' : Nat} {k : Int} {p : ByteArray} {f g : Ts → Res Tm} (hs : Sim1 f g) {ts us : Ts} (h : Eqv ts us) : SimR (conP E k p f ts) (conP E' k p g us) :=
  SimR.bnd (takeP_s 2 h) fun s ts us h => SimR.bnd (heldP_s hs h) fun l ts us h => SimR.ok h
theorem tyConP_s {E E' : Nat} {p : ByteArray} {f g : Ts → Res Tm} (hs : Sim1 f g) {ts us : Ts} (h : Eqv ts us) : SimR (tyConP E p f ts) (tyConP E' p g us) :=
  SimR.bnd (takeP_s 1 h) fun s ts us h => SimR.bnd (heldP_s hs h) fun l ts us h => SimR.ok h
theorem tyAtomP_s {E E' : Nat} {f g : Ts → Res Tm} (hs : Sim1 f g) {ts us : Ts} (h : Eqv ts us) : SimR (tyAtomP E f ts) (tyAtomP E' g us) :=
  SimR.ite (iff_kd h 3) (SimR.bnd (takeP_s 3 h) fun s ts us h => SimR.ok h) (SimR.ite (iff_kd h 2) (SimR.bnd (takeP_s 2 h) fun p ts us h => SimR.bnd (keyP_s 8 sDot h) fun _ ts us h => tyConP_s hs h)
    (SimR.ite (iff_kd h 1) (tyConP_s hs h) (SimR.bnd (openP_s hs h) fun l ts us h => shutP_s h)))
theorem typP_s (E E' : Nat) : ∀ g, Sim1 (typP E g) (typP E' g)
  | 0, ts, us, h => SimR.die
  | g + 1, ts, us, h => SimR.bnd (tyAtomP_s (typP_s E E' g) h) fun t ts us h => SimR.ite (iff_isB h 8 sArrow) (SimR.bnd (typP_s E E' g _ _ h.tail) fun u ts us h => SimR.ok h) (SimR.ok h)
theorem annP_s {E E' : Nat} {f g : Ts → Res Tm} (hs : Sim1 f g) {ts us : Ts} (h : Eqv ts us) : SimR (annP E f ts) (annP E' g us) :=
  SimR.ite (iff_isB h 8 sColon) (SimR.bnd (hs _ _ h.tail) fun t ts us h => SimR.ok h) (SimR.ok h)
theorem qualP_s {E E' : Nat} {ts us : Ts} (h : Eqv ts us) : SimR (qualP E ts) (qualP E' us) :=
  SimR.ite (iff_isB h.tail 8 sDot) (SimR.bnd (takeP_s 2 h) fun p ts us h => SimR.bnd (keyP_s 8 sDot h) fun _ ts us h => SimR.ok h) (SimR.ok h)
theorem patP_s (E E' : Nat) : ∀ g, Sim1 (patP E g) (patP E' g)
  | 0, ts, us, h => SimR.die
  | g + 1, ts, us, h => by
    unfold patP
    rw [h.nx 0 0]
    exact SimR.ite (iff_kd h 1) (SimR.bnd (takeP_s 1 h) fun s ts us h => SimR.ok h) (SimR.ite (iff_kd h 4) (SimR.bnd (takeP_s 4 h) fun s ts us h => SimR.ok h) (SimR.ite (iff_kd h 5) (SimR.bnd (takeP_s 5 h) fun s ts us h => SimR.ok h)
      (SimR.ite (iff_kd h 2) (SimR.bnd (qualP_s h) fun p ts us h => conP_s (patP_s E E' g) h) (SimR.ite (iff_isB h 8 sAny) (SimR.ok h.tail) (SimR.bnd (openP_s (patP_s E E' g) h) fun l ts us h => shutP_s h)))))
theorem iff_begB {ts us : Ts} (h : Eqv ts us) : (begB ts = true) ↔ (begB us = true) := by rw [h.begB]
theorem appF_s {E E' : Nat} {f g : Ts → Res Tm} (hs : Sim1 f g) : ∀ (k : Nat) (t : Tm) (ts us : Ts), Eqv ts us → SimR (appF E f k t ts) (appF E' g k t us)
  | 0, t, ts, us, h => SimR.ite (iff_begB h) SimR.die (SimR.ok h)
  | k + 1, t, ts, us, h => SimR.ite (iff_begB h) (SimR.bnd (hs _ _ h) fun a ts us h => appF_s hs k _ ts us h) (SimR.ok h)
theorem appP_s {E E' : Nat} {f g : Ts → Res Tm} (hs : Sim1 f g) {ts us : Ts} (h : Eqv ts us) : SimR (appP E f ts) (appP E' g us) := SimR.bnd (hs _ _ h) fun t ts us h => appF_s hs 50 t ts us h
theorem varP_s {E E' : Nat} {p : ByteArray} {ts us : Ts} (h : Eqv ts us) : SimR (varP E p ts) (varP E' p us) := SimR.bnd (takeP_s 1 h) fun s ts us h => SimR.ok h
theorem atomP_s {E E' : Nat} {f g f' g' : Ts → Res Tm} (hs : Sim1 f g) (ht : Sim1 f' g') : Sim1 (atomP E f f') (atomP E' g g') := fun ts us h => by
  unfold atomP
  rw [h.nx 0 0]
  exact SimR.ite (iff_kd h 4) (SimR.bnd (takeP_s 4 h) fun s ts us h => SimR.ok h) (SimR.ite (iff_kd h 5) (SimR.bnd (takeP_s 5 h) fun s ts us h => SimR.ok h)
    (SimR.ite (iff_kd h 2) (SimR.bnd (qualP_s h) fun p ts us h => SimR.ite (iff_kd h 2) (conP_s hs h) (varP_s h)) (SimR.ite (iff_kd h 1) (varP_s h)
      (SimR.bnd (openP_s hs h) fun l ts us h => SimR.ite (by rw [h.isB]) (SimR.bnd (annP_s ht h) fun a ts us h => shutP_s h) (shutP_s h)))))
theorem funP_s {E E' : Nat} {f g : Ts → Res Tm} (hs : Sim1 f g) {ts us : Ts} (h : Eqv ts us) : SimR (funP E f ts) (funP E' g us) :=
  SimR.bnd (takeP_s 1 h) fun s ts us h => SimR.bnd (keyP_s 8 sArrow h) fun _ ts us h => SimR.bnd (hs _ _ h) fun x ts us h => SimR.ok h
theorem letR_s {E E' : Nat} {f g f' g' : Ts → Res Tm} (hs : Sim1 f g) (ht : Sim1 f' g') {N : Int} {ts us : Ts} (h : Eqv ts us) : SimR (letR E f f' N ts) (letR E' g g' N us) :=
  SimR.bnd (takeP_s 1 h) fun s ts us h => SimR.bnd (annP_s ht h) fun a ts us h => SimR.bnd (keyP_s 8 sEq h) fun _ ts us h => SimR.bnd (hs _ _ h) fun x ts us h => SimR.bnd (keyP_s 7 kIn h) fun _ ts us h => SimR.bnd (hs _ _ h) fun y ts us h => SimR.ok h
theorem letP_s {E E' : Nat} {f g f' g' : Ts → Res Tm} (hs : Sim1 f g) (ht : Sim1 f' g') {ts us : Ts} (h : Eqv ts us) : SimR (letP E f f' ts) (letP E' g g' us) :=
  SimR.ite (iff_isB h 7 kRec) (letR_s hs ht h.tail) (letR_s hs ht h)
theorem armP_s {E E' : Nat} {f g f' g' : Ts → Res Tm} (hp : Sim1 f g) (hs : Sim1 f' g') : Sim1 (armP E f f') (armP E' g g') := fun ts us h =>
  SimR.bnd (hp _ _ h) fun p ts us h => SimR.bnd (keyP_s 8 sArrow h) fun _ ts us h => SimR.bnd (hs _ _ h) fun x ts us h => SimR.ok h
theorem matP_s {E E' : Nat} {f g f' g' : Ts → Res Tm} (hp : Sim1 f g) (hs : Sim1 f' g') {ts us : Ts} (h : Eqv ts us) : SimR (matP E f f' ts) (matP E' g g' us) :=
  SimR.bnd (hs _ _ h) fun x ts us h => SimR.bnd (keyP_s 7 kWith h) fun _ ts us h => SimR.bnd (sevP_s (armP_s hp hs) h) fun l ts us h => SimR.bnd (keyP_s 7 kEnd h) fun _ ts us h => SimR.ok h
theorem exprP_s (E E' : Nat) : ∀ g, Sim1 (exprP E g) (exprP E' g)
  | 0, ts, us, h => SimR.die
  | g + 1, ts, us, h => SimR.ite (iff_isB h 7 kFun) (funP_s (exprP_s E E' g) h.tail) (SimR.ite (iff_isB h 7 kLet) (letP_s (exprP_s E E' g) (typP_s E E' g) h.tail) (SimR.ite (iff_isB h 7 kMatch) (matP_s (patP_s E E' g) (exprP_s E E' g) h.tail)
      (appP_s (atomP_s (exprP_s E E' g) (typP_s E E' g)) h)))
theorem conIP_s (E E' : Nat) : Sim1 (conIP E) (conIP E') := fun ts us h => SimR.bnd (takeP_s 2 h) fun s ts us h => SimR.bnd (heldP_s (typP_s E E' 40) h) fun l ts us h => SimR.ok h
theorem paramsP_s {E E' : Nat} {ts us : Ts} (h : Eqv ts us) : SimR (paramsP E ts) (paramsP E' us) := heldP_s (fun ts us h => takeP_s 3 h) h
theorem impP_s {E E' : Nat} {ts us : Ts} (h : Eqv ts us) : SimR (impP E ts) (impP E' us) :=
  SimR.bnd (takeP_s 2 h) fun a ts us h => SimR.bnd (keyP_s 8 sEq h) fun _ ts us h => SimR.ite (by rw [h.tx]) (SimR.bnd (takeP_s 1 h) fun p ts us h => SimR.bnd (keyP_s 8 sAt h) fun _ ts us h => SimR.bnd (takeP_s 6 h) fun v ts us h => SimR.ok h) SimR.die
theorem tydP_s {E E' : Nat} {ts us : Ts} (h : Eqv ts us) : SimR (tydP E ts) (tydP E' us) :=
  SimR.bnd (takeP_s 1 h) fun a ts us h => SimR.bnd (paramsP_s h) fun p ts us h => SimR.bnd (keyP_s 8 sEq h) fun _ ts us h => SimR.bnd (sevP_s (conIP_s E E') h) fun c ts us h => SimR.ok h
theorem aliP_s {E E' : Nat} {ts us : Ts} (h : Eqv ts us) : SimR (aliP E ts) (aliP E' us) :=
  SimR.bnd (takeP_s 1 h) fun a ts us h => SimR.bnd (paramsP_s h) fun p ts us h => SimR.bnd (keyP_s 8 sEq h) fun _ ts us h => SimR.bnd (typP_s E E' 40 _ _ h) fun c ts us h => SimR.ok h
theorem letIP_s {E E' : Nat} {ts us : Ts} (h : Eqv ts us) : SimR (letIP E ts) (letIP E' us) :=
  SimR.bnd (takeP_s 1 h) fun a ts us h => SimR.bnd (annP_s (typP_s E E' 40) h) fun p ts us h => SimR.bnd (keyP_s 8 sEq h) fun _ ts us h => SimR.bnd (exprP_s E E' 40 _ _ h) fun c ts us h => SimR.ok h
theorem expP_s {E E' : Nat} {ts us : Ts} (h : Eqv ts us) : SimR (expP E ts) (expP E' us) :=
  SimR.ite (iff_isB h 7 kType) (SimR.bnd (takeP_s 1 h.tail) fun a ts us h => SimR.ok h) (SimR.bnd (takeP_s 1 h) fun a ts us h => SimR.bnd (annP_s (typP_s E E' 40) h) fun p ts us h => SimR.ok h)
theorem itemP_s {E E' : Nat} {m : Mod} {ts us : Ts} (h : Eqv ts us) : SimR (itemP E m ts) (itemP E' m us) :=
  SimR.ite (iff_isB h 7 kImport) (SimR.bnd (impP_s h.tail) fun _ ts us h => SimR.ok h) (SimR.ite (iff_isB h 7 kType) (SimR.bnd (tydP_s h.tail) fun _ ts us h => SimR.ok h) (SimR.ite (iff_isB h 7 kAlias) (SimR.bnd (aliP_s h.tail) fun _ ts us h => SimR.ok h)
    (SimR.ite (iff_isB h 7 kLet) (SimR.bnd (letIP_s h.tail) fun _ ts us h => SimR.ok h) (SimR.ite (iff_isB h 7 kExport) (SimR.bnd (expP_s h.tail) fun _ ts us h => SimR.ok h) SimR.die))))
theorem modF_s {E E' : Nat} : ∀ (f : Nat) (m : Mod) (ts us : Ts), Eqv ts us → SimR (modF E f m ts) (modF E' f m us)
  | 0, m, ts, us, h => SimR.die
  | f + 1, m, ts, us, h => by
    unfold modF
    exact SimR.ite (by rw [h.len]) (SimR.ok h) (SimR.bnd (itemP_s h) fun m ts us h => SimR.bnd (keyP_s 8 sSemi h) fun _ ts us h => modF_s f m ts us h)
theorem modP_s (E E' : Nat) : Sim1 (modP E) (modP E') := fun ts us h => by
  unfold modP
  rw [h.len]
  exact modF_s _ _ _ _ h
/-- Read whole: the same answer, or a fault of the same number. -/
def SimE (x y : Except (Nat × Nat) α) : Prop := match x, y with
  | .ok a, .ok b => a = b
  | .error p, .error q => p.2 = q.2
  | _, _ => False
theorem wholeP_s {E E' : Nat} {f g : Ts → Res α} (hs : Sim1 f g) {ts us : Ts} (h : Eqv ts us) : SimE (wholeP E f ts) (wholeP E' g us) := by
  have h1 := hs ts us h
  unfold wholeP
  cases hx : f ts with
  | error p =>
    rw [hx] at h1
    cases hy : g us with
    | error q => rw [hy] at h1; exact h1
    | ok b => rw [hy] at h1; exact h1.elim
  | ok a =>
    rw [hx] at h1
    cases hy : g us with
    | error q => rw [hy] at h1; exact h1.elim
    | ok b =>
      rw [hy] at h1
      obtain ⟨a, ts2⟩ := a
      obtain ⟨b, us2⟩ := b
      obtain ⟨h2, h3⟩ := h1
      obtain rfl : a = b := h2
      have hl : ts2.length = us2.length := Eqv.len h3
      dsimp only
      by_cases h0 : ts2.length = 0
      · rw [if_pos h0, if_pos (hl ▸ h0)]; rfl
      · rw [if_neg h0, if_neg (fun e => h0 (hl.trans e))]; rfl
end Go.Proofs.YtlbnaddgdgbckaaGreatDoor
/- How what ParseDeep builds is read as tokens. -/
namespace Go.Proofs.YtlbnaddgdgbckaaGreatDoor
set_option linter.unusedSimpArgs false
set_option linter.unusedVariables false
theorem right_of (l : List UInt8) (t : Tk) (h : firstT (ofL l) = (t, l.length)) (h0 : 0 < l.length) : RightT t := read_right h h0
theorem right_x : RightT tokX.1 := right_of [120] _ (by kernel_rfl) (by decide)
theorem right_f : RightT tokF.1 := right_of [102, 117, 110] _ (by kernel_rfl) (by decide)
theorem right_a : RightT tokA.1 := right_of [45, 62] _ (by kernel_rfl) (by decide)
theorem right_i : RightT tokI.1 := right_of [105, 110, 116] _ (by kernel_rfl) (by decide)
def bS : Nat → List UInt8
  | 0 => [120]
  | n + 1 => 40 :: (bS n ++ [41])
def bT : Nat → List UInt8
  | 0 => [120]
  | n + 1 => [102, 117, 110, 32, 120, 32, 45, 62, 32] ++ bT n
def bU : Nat → List UInt8
  | 0 => [105, 110, 116]
  | n + 1 => [105, 110, 116, 32, 45, 62, 32] ++ bU n
def bV : Nat → List UInt8
  | 0 => [120]
  | n + 1 => bV n ++ [32, 120]
theorem tell_x : tellT tokX.1 = [120] := by kernel_rfl
theorem tell_f : tellT tokF.1 = [102, 117, 110] := by kernel_rfl
theorem tell_a : tellT tokA.1 = [45, 62] := by kernel_rfl
theorem tell_i : tellT tokI.1 = [105, 110, 116] := by kernel_rfl
theorem tT_ne (n : Nat) : (tT n).map Prod.fst ≠ [] := by cases n <;> simp [tT]
theorem tU_ne (n : Nat) : (tU n).map Prod.fst ≠ [] := by cases n <;> simp [tU]
theorem join_T : ∀ n, joinT ((tT n).map Prod.fst) = bT n
  | 0 => by show joinT [tokX.1] = _; rw [joinT_cons, tell_x]; rfl
  | n + 1 => by
    show joinT (tokF.1 :: tokX.1 :: tokA.1 :: (tT n).map Prod.fst) = _
    rw [joinT_cons, joinT_cons, joinT_cons, tell_f, tell_x, tell_a, if_neg (by simp), if_neg (by simp), if_neg (tT_ne n), join_T n]
    rfl
theorem join_U : ∀ n, joinT ((tU n).map Prod.fst) = bU n
  | 0 => by show joinT [tokI.1] = _; rw [joinT_cons, tell_i]; rfl
  | n + 1 => by
    show joinT (tokI.1 :: tokA.1 :: (tU n).map Prod.fst) = _
    rw [joinT_cons, joinT_cons, tell_i, tell_a, if_neg (by simp), if_neg (tU_ne n), join_U n]
    rfl
theorem tV_rep : ∀ n, (tV n).map Prod.fst = List.replicate (n + 1) tokX.1
  | 0 => rfl
  | n + 1 => by
    show (tV n ++ [tokX]).map Prod.fst = _
    rw [List.map_append, tV_rep n, ← List.replicate_append_replicate (n := n + 1) (m := 1)]
    rfl
theorem bV_comm : ∀ n, bV n ++ [32, 120] = [120, 32] ++ bV n
  | 0 => rfl
  | n + 1 => by
    show (bV n ++ [32, 120]) ++ [32, 120] = [120, 32] ++ (bV n ++ [32, 120])
    rw [bV_comm n, List.append_assoc, bV_comm n]
theorem join_V : ∀ n, joinT (List.replicate (n + 1) tokX.1) = bV n
  | 0 => by show joinT [tokX.1] = _; rw [joinT_cons, tell_x]; rfl
  | n + 1 => by
    rw [List.replicate_succ, joinT_cons, tell_x, if_neg (by simp), join_V n]
    exact (bV_comm n).symm
theorem len_T : ∀ n, (bT n).length = 9 * n + 1
  | 0 => rfl
  | n + 1 => by show ([102, 117, 110, 32, 120, 32, 45, 62, 32] ++ bT n).length = _; rw [List.length_append, len_T n]; simp; omega
theorem len_U : ∀ n, (bU n).length = 7 * n + 3
  | 0 => rfl
  | n + 1 => by show ([105, 110, 116, 32, 45, 62, 32] ++ bU n).length = _; rw [List.length_append, len_U n]; simp; omega
theorem len_V : ∀ n, (bV n).length = 2 * n + 1
  | 0 => rfl
  | n + 1 => by show (bV n ++ [32, 120]).length = _; rw [List.length_append, len_V n]; simp; omega
theorem len_S : ∀ n, (bS n).length = 2 * n + 1
  | 0 => rfl
  | n + 1 => by show (40 :: (bS n ++ [41])).length = _; rw [List.length_cons, List.length_append, len_S n]; simp; omega
theorem mem_T : ∀ n, ∀ t ∈ (tT n).map Prod.fst, RightT t
  | 0, t, h => by obtain rfl : t = tokX.1 := by simpa [tT] using h
                  exact right_x
  | n + 1, t, h => by
    have h : t ∈ tokF.1 :: tokX.1 :: tokA.1 :: (tT n).map Prod.fst := h
    rcases List.mem_cons.1 h with rfl | h
    · exact right_f
    rcases List.mem_cons.1 h with rfl | h
    · exact right_x
    rcases List.mem_cons.1 h with rfl | h
    · exact right_a
    exact mem_T n t h
theorem mem_U : ∀ n, ∀ t ∈ (tU n).map Prod.fst, RightT t
  | 0, t, h => by obtain rfl : t = tokI.1 := by simpa [tU] using h
                  exact right_i
  | n + 1, t, h => by
    have h : t ∈ tokI.1 :: tokA.1 :: (tU n).map Prod.fst := h
    rcases List.mem_cons.1 h with rfl | h
    · exact right_i
    rcases List.mem_cons.1 h with rfl | h
    · exact right_a
    exact mem_U n t h
theorem cnt_T : ∀ n, (tT n).length = 3 * n + 1
  | 0 => rfl
  | n + 1 => by show (tT n).length + 3 = _; rw [cnt_T n]; omega
theorem cnt_U : ∀ n, (tU n).length = 2 * n + 1
  | 0 => rfl
  | n + 1 => by show (tU n).length + 2 = _; rw [cnt_U n]; omega
theorem lex_T (n : Nat) (h : n ≤ 60) : ∃ r, lexM (ofL (bT n)) = (r, 0, 0) ∧ Eqv r (tT n) := by
  obtain ⟨r, h1, h2⟩ := lexM_back (mem_T n) (by rw [join_T, len_T]; omega) (by rw [List.length_map, cnt_T]; omega)
  rw [join_T] at h1
  exact ⟨r, h1, h2⟩
theorem lex_U (n : Nat) (h : n ≤ 60) : ∃ r, lexM (ofL (bU n)) = (r, 0, 0) ∧ Eqv r (tU n) := by
  obtain ⟨r, h1, h2⟩ := lexM_back (mem_U n) (by rw [join_U, len_U]; omega) (by rw [List.length_map, cnt_U]; omega)
  rw [join_U] at h1
  exact ⟨r, h1, h2⟩
theorem lex_V (n : Nat) (h : n ≤ 60) : ∃ r, lexM (ofL (bV n)) = (r, 0, 0) ∧ Eqv r (tV n) := by
  obtain ⟨r, h1, h2⟩ := lexM_back (ts := List.replicate (n + 1) tokX.1) (fun t ht => by rw [(List.mem_replicate.1 ht).2]; exact right_x) (by rw [join_V, len_V]; omega) (by simp; omega)
  rw [join_V] at h1
  exact ⟨r, h1, h2.trans (tV_rep n).symm⟩
/-- Parentheses. -/
theorem first40 (l : List UInt8) : firstT (ofL (40 :: l)) = (tokO.1, 1) := by
  have e1 : smB 40 = false := by decide
  have e2 : decide (UInt8.toNat 40 = 95) = false := by decide
  have e3 : grB 40 = false := by decide
  have e4 : dgB 40 = false := by decide
  have e5 : decide (UInt8.toNat 40 = 45) = false := by decide
  have e6 : sgB (UInt8.toNat 40) = true := by decide
  rw [firstT_at (c := 40) rfl, e1, e2, e3, e4, e5, if_neg (by simp), if_neg (by simp), if_neg (by decide), if_neg (by decide), if_neg (by simp), signT_ofL, if_neg (by decide), e6, if_pos rfl]
  rfl
theorem first41 (l : List UInt8) : firstT (ofL (41 :: l)) = (tokC.1, 1) := by
  have e1 : smB 41 = false := by decide
  have e2 : decide (UInt8.toNat 41 = 95) = false := by decide
  have e3 : grB 41 = false := by decide
  have e4 : dgB 41 = false := by decide
  have e5 : decide (UInt8.toNat 41 = 45) = false := by decide
  have e6 : sgB (UInt8.toNat 41) = true := by decide
  rw [firstT_at (c := 41) rfl, e1, e2, e3, e4, e5, if_neg (by simp), if_neg (by simp), if_neg (by decide), if_neg (by decide), if_neg (by simp), signT_ofL, if_neg (by decide), e6, if_pos rfl]
  rfl
theorem first120 (l : List UInt8) (h : l.head? = none ∨ l.head? = some 41) : firstT (ofL (120 :: l)) = (tokX.1, 1) :=
  firstT_ext (x := [120]) (y := l) (fun c hc => by
    rcases h with h | h
    · rw [h] at hc; cases hc
    · rw [h] at hc; cases hc; unfold apart; decide) (by kernel_rfl) (by decide) rfl
theorem sk_41 {l : List UInt8} (h : l.head? = none ∨ l.head? = some 41) : skM l = 0 := by
  cases l with
  | nil => rfl
  | cons c l =>
    rcases h with h | h
    · cases h
    · cases h
      exact first_sk (first41 l) (by decide)
theorem bS_head : ∀ (n : Nat) (rest : List UInt8), rest.head? = none ∨ rest.head? = some 41 → ∃ t, firstT (ofL (bS n ++ rest)) = (t, 1)
  | 0, rest, h => ⟨_, first120 rest h⟩
  | n + 1, rest, h => ⟨_, first40 _⟩
theorem lexed_S : ∀ (n i : Nat) (rest : List UInt8) (r0 : List (Tk × Nat)), (rest.head? = none ∨ rest.head? = some 41) → Lexed rest (i + (2 * n + 1)) r0 → ∃ r, Lexed (bS n ++ rest) i r ∧ r.map Prod.fst = (tS n).map Prod.fst ++ r0.map Prod.fst
  | 0, i, rest, r0, hh, hr => ⟨_, Lexed.cons (120 :: rest) i 1 0 tokX.1 r0 (first120 rest hh) (by decide) (sk_41 hh) hr, rfl⟩
  | n + 1, i, rest, r0, hh, hr => by
    have h1 : Lexed (41 :: rest) (i + 1 + 0 + (2 * n + 1)) ((tokC.1, i + 1 + 0 + (2 * n + 1)) :: r0) := Lexed.cons (41 :: rest) _ 1 0 tokC.1 r0 (first41 rest) (by decide) (sk_41 hh) (by
      have e : i + 1 + 0 + (2 * n + 1) + 1 + 0 = i + (2 * (n + 1) + 1) := by omega
      rw [e]
      exact hr)
    obtain ⟨r, h2, h3⟩ := lexed_S n (i + 1 + 0) (41 :: rest) _ (.inr rfl) h1
    obtain ⟨t, ht⟩ := bS_head n (41 :: rest) (.inr rfl)
    have e : bS (n + 1) ++ rest = 40 :: (bS n ++ 41 :: rest) := by show (40 :: (bS n ++ [41])) ++ rest = _; simp
    rw [e]
    refine ⟨_, Lexed.cons (40 :: (bS n ++ 41 :: rest)) i 1 0 tokO.1 r (first40 _) (by decide) (first_sk ht (by decide)) h2, ?_⟩
    rw [List.map_cons, h3]
    show _ = (tokO :: (tS n ++ [tokC])).map Prod.fst ++ _
    simp
theorem cnt_S : ∀ n, (tS n).length = 2 * n + 1
  | 0 => rfl
  | n + 1 => by show (tokO :: (tS n ++ [tokC])).length = _; rw [List.length_cons, List.length_append, cnt_S n]; simp; omega
theorem lex_S (n : Nat) (h : n ≤ 60) : ∃ r, lexM (ofL (bS n)) = (r, 0, 0) ∧ Eqv r (tS n) := by
  obtain ⟨r, h1, h2⟩ := lexed_S n 0 [] [] (.inl rfl) (Lexed.nil _)
  obtain ⟨t, ht⟩ := bS_head n [] (.inl rfl)
  rw [List.append_nil] at h1 ht
  rw [List.map_nil, List.append_nil] at h2
  have hs : skM (ofL (bS n)).data.toList = 0 := first_sk (l := bS n) ht (by decide)
  have hl : r.length = 2 * n + 1 := by have := congrArg List.length h2; rw [List.length_map, List.length_map, cnt_S] at this; exact this
  exact ⟨r, lexM_of (by rw [ofL_size, len_S]; omega) (by rw [hs]; exact h1) (by omega), h2⟩
/-- Read whole. -/
theorem readM_s {α : Type} {s : ByteArray} {r : List (Tk × Nat)} (h : lexM s = (r, 0, 0)) {f g : Nat → Ts → Res α} (hs : Sim1 (f s.size) (g 0)) {ts : Ts} (he : Eqv r ts) : SimE (readM s f) (wholeP 0 (g 0) ts) := by
  unfold readM
  rw [h, if_neg (fun h => h rfl)]
  exact wholeP_s hs he
theorem SimE.err {α : Type} {x y : Except (Nat × Nat) α} (h : SimE x y) : errOf x = errOf y := by
  cases x <;> cases y <;> first | rfl | exact h | exact h.elim
theorem deep_all (n : Nat) (h : n ≤ 60) : errOf (exprM (ofL (bS n))) = (if 40 ≤ n then 9 else 0) ∧ errOf (exprM (ofL (bT n))) = (if 40 ≤ n then 9 else 0) ∧ errOf (typM (ofL (bU n))) = (if 40 ≤ n then 9 else 0) ∧ (errOf (exprM (ofL (bV n))) = 0 ↔ n ≤ 50) := by
  have hc := List.all_eq_true.1 chk_all n (List.mem_range.2 (by omega))
  obtain ⟨r1, a1, e1⟩ := lex_S n h
  obtain ⟨r2, a2, e2⟩ := lex_T n h
  obtain ⟨r3, a3, e3⟩ := lex_U n h
  obtain ⟨r4, a4, e4⟩ := lex_V n h
  have s1 := SimE.err (readM_s a1 (f := fun E ts => exprP E 40 ts) (g := fun E ts => exprP E 40 ts) (exprP_s _ _ 40) e1)
  have s2 := SimE.err (readM_s a2 (f := fun E ts => exprP E 40 ts) (g := fun E ts => exprP E 40 ts) (exprP_s _ _ 40) e2)
  have s3 := SimE.err (readM_s a3 (f := fun E ts => typP E 40 ts) (g := fun E ts => typP E 40 ts) (typP_s _ _ 40) e3)
  have s4 := SimE.err (readM_s a4 (f := fun E ts => exprP E 40 ts) (g := fun E ts => exprP E 40 ts) (exprP_s _ _ 40) e4)
  unfold chkT at hc
  simp only [Bool.and_eq_true, beq_iff_eq, decide_eq_decide] at hc
  obtain ⟨⟨⟨h1, h2⟩, h3⟩, h4⟩ := hc
  refine ⟨s1.trans h1, s2.trans h2, s3.trans h3, ?_⟩
  show errOf (readM _ _) = 0 ↔ _
  rw [s4]
  exact ⟨fun e => by simpa [e] using h4, fun e => by simpa [e] using h4⟩
end Go.Proofs.YtlbnaddgdgbckaaGreatDoor
