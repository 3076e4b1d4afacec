/- Texts in a row: Ri Te. -/
import Derived.Test.YtlbnaddgdgbckaaGreatDoorZ41
import Derived.Test.YtlbnaddgdgbckaaGreatDoorZ42
import Derived.Test.YtlbnaddgdgbckaaGreatDoorZ35
/- More tokens behind: items. -/
namespace Go.Proofs.YtlbnaddgdgbckaaGreatDoor
set_option linter.unusedSimpArgs false
set_option linter.unusedVariables false
variable {α β : Type}
theorem conIP_x (E : Nat) : Ext1 (conIP E) := Ext1.bnd (takeP_x E (by decide)) fun s => Ext1.bnd (heldP_x (typP_x E 40)) fun l => Ext1.ok _
theorem paramsP_x (E : Nat) : Ext1 (paramsP E) := heldP_x (takeP_x E (by decide))
theorem impP_x (E : Nat) : Ext1 (impP E) :=
  Ext1.bnd (takeP_x E (by decide)) fun a => Ext1.bnd (keyP_x E (by decide) sEq) fun _ => by
    intro ts b ts' h r hr
    dsimp only at h ⊢
    cases ts with
    | nil =>
      exfalso
      by_cases hc : Sv.pkgB (tx []).data.toList = true
      · rw [if_pos hc] at h
        exact never_bnd (never_take E (by decide)) b ts' h
      · rw [if_neg hc] at h
        cases h
    | cons t us =>
      by_cases hc : Sv.pkgB (tx (t :: us)).data.toList = true
      · rw [if_pos hc] at h
        rw [if_pos (show Sv.pkgB (tx ((t :: us) ++ r)).data.toList = true from hc)]
        exact (Ext1.bnd (takeP_x E (by decide)) fun p => Ext1.bnd (keyP_x E (by decide) sAt) fun _ => Ext1.bnd (takeP_x E (by decide)) fun v => Ext1.ok _) _ b ts' h r hr
      · rw [if_neg hc] at h
        cases h
theorem tydP_x (E : Nat) : Ext1 (tydP E) := Ext1.bnd (takeP_x E (by decide)) fun n => Ext1.bnd (paramsP_x E) fun p => Ext1.bnd (keyP_x E (by decide) sEq) fun _ => Ext1.bnd (sevP_x (by decide) (conIP_x E)) fun c => Ext1.ok _
theorem aliP_x (E : Nat) : Ext1 (aliP E) := Ext1.bnd (takeP_x E (by decide)) fun n => Ext1.bnd (paramsP_x E) fun p => Ext1.bnd (keyP_x E (by decide) sEq) fun _ => Ext1.bnd (typP_x E 40) fun t => Ext1.ok _
theorem letIP_x (E : Nat) : Ext1 (letIP E) := Ext1.bnd (takeP_x E (by decide)) fun n => Ext1.bnd (annP_x (typP_x E 40)) fun a => Ext1.bnd (keyP_x E (by decide) sEq) fun _ => Ext1.bnd (exprP_x E 40) fun b => Ext1.ok _
theorem expP_x (E : Nat) : Ext1 (expP E) :=
  Ext1.ite2 (head_isB kType (by decide)) (ExtC.bnd (takeP_x E (by decide)).tail fun n => Ext1.ok _) (Ext1.bnd (takeP_x E (by decide)) fun n => Ext1.bnd (annP_x (typP_x E 40)) fun a => Ext1.ok _) (never_bnd (never_take E (by decide)))
end Go.Proofs.YtlbnaddgdgbckaaGreatDoor
/- Two sources of whole items, one behind the other, are read as the items of both. -/
namespace Go.Proofs.YtlbnaddgdgbckaaGreatDoor
set_option linter.unusedSimpArgs false
set_option linter.unusedVariables false
theorem never_item (E : Nat) (m : Mod) : Never (itemP E m) :=
  never_ite (head_isB kImport (by decide)) (never_ite (head_isB kType (by decide)) (never_ite (head_isB kAlias (by decide)) (never_ite (head_isB kLet (by decide)) (never_ite (head_isB kExport (by decide)) (never_die E 10)))))
theorem itemP_x (E : Nat) (m : Mod) : Ext1 (itemP E m) :=
  Ext1.ite2 (head_isB kImport (by decide)) (Ext1.bnd (impP_x E) fun x => Ext1.ok ({ m with im := m.im ++ [x] } : Mod)).tail
    (Ext1.ite2 (head_isB kType (by decide)) (Ext1.bnd (tydP_x E) fun x => Ext1.ok ({ m with ty := m.ty ++ [x] } : Mod)).tail
      (Ext1.ite2 (head_isB kAlias (by decide)) (Ext1.bnd (aliP_x E) fun x => Ext1.ok ({ m with al := m.al ++ [x] } : Mod)).tail
        (Ext1.ite2 (head_isB kLet (by decide)) (Ext1.bnd (letIP_x E) fun x => Ext1.ok ({ m with le := m.le ++ [x] } : Mod)).tail
          (Ext1.ite2 (head_isB kExport (by decide)) (Ext1.bnd (expP_x E) fun x => Ext1.ok ({ m with ex := m.ex ++ [x] } : Mod)).tail (Ext1.die E 10) (never_die E 10))
          (never_ite (head_isB kExport (by decide)) (never_die E 10)))
        (never_ite (head_isB kLet (by decide)) (never_ite (head_isB kExport (by decide)) (never_die E 10))))
      (never_ite (head_isB kAlias (by decide)) (never_ite (head_isB kLet (by decide)) (never_ite (head_isB kExport (by decide)) (never_die E 10)))))
    (never_ite (head_isB kType (by decide)) (never_ite (head_isB kAlias (by decide)) (never_ite (head_isB kLet (by decide)) (never_ite (head_isB kExport (by decide)) (never_die E 10)))))
/-- The items of both. -/
def joinM (a b : Mod) : Mod := ⟨a.im ++ b.im, a.ty ++ b.ty, a.al ++ b.al, a.le ++ b.le, a.ex ++ b.ex⟩
theorem joinM_0 (a : Mod) : joinM a mod0 = a := by
  obtain ⟨i, t, l, e, x⟩ := a
  show Mod.mk (i ++ []) (t ++ []) (l ++ []) (e ++ []) (x ++ []) = _
  rw [List.append_nil, List.append_nil, List.append_nil, List.append_nil, List.append_nil]
theorem bnd_pre {α : Type} {x : Res α} {a : Mod} {F : Mod → α → Mod} {m : Mod} (hF : ∀ y, F (joinM a m) y = joinM a (F m y)) {m' : Mod} {ts' : Ts} (h : bnd x (fun y ts => .ok (F m y, ts)) = .ok (m', ts')) :
    bnd x (fun y ts => .ok (F (joinM a m) y, ts)) = .ok (joinM a m', ts') := by
  cases x with
  | error e => cases h
  | ok y =>
    cases h
    show Except.ok (F (joinM a m) y.1, y.2) = _
    rw [hF]
theorem itemP_pre {E : Nat} {a m m' : Mod} {ts ts' : Ts} (h : itemP E m ts = .ok (m', ts')) : itemP E (joinM a m) ts = .ok (joinM a m', ts') := by
  unfold itemP at h ⊢
  by_cases h1 : isB 7 kImport ts = true
  · rw [if_pos h1] at h ⊢
    exact bnd_pre (F := fun m x => { m with im := m.im ++ [x] }) (fun y => by unfold joinM; simp) h
  · rw [if_neg h1] at h ⊢
    by_cases h2 : isB 7 kType ts = true
    · rw [if_pos h2] at h ⊢
      exact bnd_pre (F := fun m x => { m with ty := m.ty ++ [x] }) (fun y => by unfold joinM; simp) h
    · rw [if_neg h2] at h ⊢
      by_cases h3 : isB 7 kAlias ts = true
      · rw [if_pos h3] at h ⊢
        exact bnd_pre (F := fun m x => { m with al := m.al ++ [x] }) (fun y => by unfold joinM; simp) h
      · rw [if_neg h3] at h ⊢
        by_cases h4 : isB 7 kLet ts = true
        · rw [if_pos h4] at h ⊢
          exact bnd_pre (F := fun m x => { m with le := m.le ++ [x] }) (fun y => by unfold joinM; simp) h
        · rw [if_neg h4] at h ⊢
          by_cases h5 : isB 7 kExport ts = true
          · rw [if_pos h5] at h ⊢
            exact bnd_pre (F := fun m x => { m with ex := m.ex ++ [x] }) (fun y => by unfold joinM; simp) h
          · rw [if_neg h5] at h
            cases h
theorem itemP_kd {E : Nat} {m m' : Mod} {ts ts' : Ts} (h : itemP E m ts = .ok (m', ts')) : kd ts = 7 := by
  unfold itemP at h
  by_cases h1 : isB 7 kImport ts = true
  · exact (isB_kd h1).1
  · rw [if_neg h1] at h
    by_cases h2 : isB 7 kType ts = true
    · exact (isB_kd h2).1
    · rw [if_neg h2] at h
      by_cases h3 : isB 7 kAlias ts = true
      · exact (isB_kd h3).1
      · rw [if_neg h3] at h
        by_cases h4 : isB 7 kLet ts = true
        · exact (isB_kd h4).1
        · rw [if_neg h4] at h
          by_cases h5 : isB 7 kExport ts = true
          · exact (isB_kd h5).1
          · rw [if_neg h5] at h
            cases h
theorem bnd_some {α β : Type} {x : Res α} {f : α → Ts → Res β} {b : β} {ts' : Ts} (h : bnd x f = .ok (b, ts')) : ∃ a ts, x = .ok (a, ts) ∧ f a ts = .ok (b, ts') := by
  cases x with
  | error e => cases h
  | ok y => exact ⟨y.1, y.2, rfl, h⟩
theorem modF_pre {E : Nat} {a : Mod} : ∀ (f : Nat) (m b : Mod) (ts ts' : Ts), modF E f m ts = .ok (b, ts') → modF E f (joinM a m) ts = .ok (joinM a b, ts')
  | 0, m, b, ts, ts', h => by cases h
  | f + 1, m, b, ts, ts', h => by
    unfold modF at h ⊢
    by_cases h0 : ts.length = 0
    · rw [if_pos h0] at h ⊢
      cases h
      rfl
    · rw [if_neg h0] at h ⊢
      obtain ⟨m2, ts2, h1, h2⟩ := bnd_some h
      rw [itemP_pre h1]
      rw [bnd_ok]
      obtain ⟨u, ts3, h3, h4⟩ := bnd_some h2
      rw [h3]
      exact modF_pre f m2 b ts3 ts' h4
theorem key_tail {E : Nat} {k : Int} {x : ByteArray} {ts ts' : Ts} {u : Unit} (h : keyP E k x ts = .ok (u, ts')) : ts' = ts.tail ∧ isB k x ts = true := by
  unfold keyP at h
  by_cases hb : isB k x ts = true
  · rw [if_pos hb] at h
    cases h
    exact ⟨rfl, hb⟩
  · rw [if_neg hb] at h
    cases h
theorem modF_len {E : Nat} {m m2 : Mod} {ts ts2 ts3 : Ts} {u : Unit} (h1 : itemP E m ts = .ok (m2, ts2)) (h2 : keyP E 8 sSemi ts2 = .ok (u, ts3)) : ts3.length < ts.length := by
  have h3 : ts2.length ≤ ts.length := itemP_m (Nat.le_refl _) _ _ h1
  obtain ⟨rfl, hb⟩ := key_tail h2
  have := isB_pos (by decide) hb
  omega
theorem modF_any {E : Nat} : ∀ (f g : Nat) (m : Mod) (ts : Ts), ts.length < f → ts.length < g → modF E f m ts = modF E g m ts
  | 0, g, m, ts, h, _ => by omega
  | f + 1, 0, m, ts, _, h => by omega
  | f + 1, g + 1, m, ts, hf, hg => by
    unfold modF
    by_cases h0 : ts.length = 0
    · rw [if_pos h0, if_pos h0]
    · rw [if_neg h0, if_neg h0]
      cases h1 : itemP E m ts with
      | error e => rfl
      | ok y =>
        obtain ⟨m2, ts2⟩ := y
        rw [bnd_ok, bnd_ok]
        cases h2 : keyP E 8 sSemi ts2 with
        | error e => rfl
        | ok z =>
          obtain ⟨u, ts3⟩ := z
          have := modF_len h1 h2
          exact modF_any f g m2 ts3 (by omega) (by omega)
theorem modF_x {E : Nat} {us : Ts} (hu : us = [] ∨ Inert us) : ∀ (f : Nat) (m a : Mod) (ts : Ts), modF E f m ts = .ok (a, []) → modF E ((ts ++ us).length + 1) m (ts ++ us) = modF E (us.length + 1) a us
  | 0, m, a, ts, h => by cases h
  | f + 1, m, a, ts, h => by
    unfold modF at h
    by_cases h0 : ts.length = 0
    · rw [if_pos h0] at h
      cases h
      rfl
    · rw [if_neg h0] at h
      obtain ⟨m2, ts2, h1, h2⟩ := bnd_some h
      obtain ⟨u, ts3, h3, h4⟩ := bnd_some h2
      have hl := modF_len h1 h3
      rcases hu with rfl | hu
      · rw [List.append_nil]
        have h5 := modF_x (.inl rfl) f m2 a ts3 h4
        rw [List.append_nil] at h5
        rw [modF, if_neg h0, h1]
        rw [bnd_ok]
        rw [h3, bnd_ok, ← h5]
        exact modF_any _ _ _ _ (by omega) (by omega)
      · have h5 := modF_x (.inr hu) f m2 a ts3 h4
        rw [modF, if_neg (by rw [List.length_append]; omega), itemP_x E m ts m2 ts2 h1 us hu]
        rw [bnd_ok]
        rw [keyP_x E (by decide) sSemi ts2 u ts3 h3 us hu, bnd_ok, ← h5]
        exact modF_any _ _ _ _ (by simp; omega) (by omega)
theorem modP_join {E : Nat} {ts us : Ts} {a b : Mod} (h1 : modP E ts = .ok (a, [])) (h2 : modP E us = .ok (b, [])) : modP E (ts ++ us) = .ok (joinM a b, []) := by
  have hu : us = [] ∨ Inert us := by
    cases us with
    | nil => exact .inl rfl
    | cons u us =>
      right
      unfold modP modF at h2
      rw [if_neg (by simp)] at h2
      obtain ⟨m2, ts2, h3, _⟩ := bnd_some h2
      exact .inr (itemP_kd h3)
  unfold modP at h1 h2 ⊢
  rw [modF_x hu _ _ _ _ h1]
  have := modF_pre (a := a) _ _ _ _ _ h2
  rw [joinM_0] at this
  exact this
theorem modM_read {s : ByteArray} : modM s = readM s modP := rfl
theorem join_read {s t c : ByteArray} {a b : Mod} (hs : s.size ≤ 6000) (ht : t.size ≤ 6000) (hc : c.data.toList = s.data.toList ++ 10 :: t.data.toList) (h1 : modM s = .ok a) (h2 : modM t = .ok b) :
    modM c = .ok (joinM a b) ∨ (∃ p, modM c = .error (p, 9)) ∧ 5000 < s.size + t.size := by
  rw [modM_read] at h1 h2 ⊢
  obtain ⟨r1, a1, b1⟩ := read_ok h1
  obtain ⟨r2, a2, b2⟩ := read_ok h2
  obtain ⟨c1, d1⟩ := lexM_S a1
  obtain ⟨c2, d2⟩ := lexM_S a2
  have f1 := c1.few
  have f2 := c2.few
  rw [len_list, List.length_map] at f1 f2
  have hS : LexS c.data.toList (r1.map Prod.fst ++ r2.map Prod.fst) := by rw [hc]; exact c1.app c2
  have hcz : c.size = s.size + t.size + 1 := by
    have := congrArg List.length hc
    rw [len_list] at this
    simp at this
    omega
  by_cases hl : r1.length + r2.length ≤ 6000
  · left
    obtain ⟨r', e1, e2⟩ := hS.lexM (by omega) (by simp; omega)
    have g1 := modP_s s.size c.size r1 r1 rfl
    have g2 := modP_s t.size c.size r2 r2 rfl
    rw [b1] at g1
    rw [b2] at g2
    cases x1 : modP c.size r1 with
    | error p => rw [x1] at g1; exact g1.elim
    | ok y1 =>
      cases x2 : modP c.size r2 with
      | error p => rw [x2] at g2; exact g2.elim
      | ok y2 =>
        obtain ⟨y1, v1⟩ := y1
        obtain ⟨y2, v2⟩ := y2
        rw [x1] at g1
        rw [x2] at g2
        obtain ⟨g1, k1⟩ := g1
        obtain ⟨g2, k2⟩ := g2
        obtain rfl : a = y1 := g1
        obtain rfl : b = y2 := g2
        obtain rfl : v1 = [] := List.length_eq_zero_iff.1 (Eqv.len k1).symm
        obtain rfl : v2 = [] := List.length_eq_zero_iff.1 (Eqv.len k2).symm
        have hj := modP_join x1 x2
        have he : Eqv (r1 ++ r2) r' := by
          show List.map Prod.fst _ = List.map Prod.fst r'
          rw [e2, List.map_append]
        have h3 := modP_s c.size c.size _ _ he
        rw [hj] at h3
        have h4 : readM c modP = wholeP c.size (modP c.size) r' := by
          unfold readM
          rw [e1, if_neg (fun h => h rfl)]
        rw [h4]
        unfold wholeP
        cases hy : modP c.size r' with
        | error p => rw [hy] at h3; exact h3.elim
        | ok z =>
          obtain ⟨z, vs⟩ := z
          rw [hy] at h3
          obtain ⟨h5, h6⟩ := h3
          obtain rfl : joinM a b = z := h5
          show (if vs.length = 0 then _ else _) = _
          rw [if_pos (show vs.length = 0 from (Eqv.len h6).symm)]
  · right
    have h3 := hS.many (by simp; omega)
    refine ⟨⟨(lexM c).2.1, ?_⟩, by omega⟩
    unfold readM
    rw [if_pos (by rw [h3]; decide), h3]
end Go.Proofs.YtlbnaddgdgbckaaGreatDoor
