/- Texts in a row: Qk Da Ea. -/
import Derived.Test.YtncebhddcokkoaaDoorZM34
import Derived.Test.YtncebhddcokkoaaDoorZM30
import Derived.Test.YtncebhddcokkoaaDoorZM16
import Derived.Deep.QuietTactic
import Derived.BigQuiet
import Derived.Deep.DeepCutAuto
import Derived.Outline
import Derived.Test.YtncebhddcokkoaaDoorZM31
import Derived.Test.YtncebhddcokkoaaDoorZM15
/- UnifySolves: its walk. -/
namespace Go.Proofs.YtncebhddcokkoaaDoor
open Go.RowKit
set_option linter.unusedSimpArgs false
set_option linter.unusedVariables false
theorem VAt.more {w : World} {d d' : Nat} {v : Value} {L : List NT} (h : VAt w d v L) (hd : d ≤ d') : VAt w d' v L := by
  obtain ⟨q, c, e, hl, h⟩ := h
  refine ⟨q, c, e, hl, fun i x hx => ?_⟩
  obtain ⟨g, k, p, n, N, s, h1, h2, h3, h4, h5⟩ := h i x hx
  exact ⟨g, k, p, n, N, s, h1, h2, h3, h4, h5.more hd⟩
theorem EqAt.more {w : World} {d d' : Nat} {v : Value} {E : List (Tm × Tm)} (h : EqAt w d v E) (hd : d ≤ d') : EqAt w d' v E := by
  obtain ⟨q, c, e, h⟩ := h
  refine ⟨q, c, e, fun i x hx => ?_⟩
  obtain ⟨g, o, k, p, n, N, s, k', p', n', N', s', h1, ⟨h2, h3⟩, h4, h5⟩ := h i x hx
  exact ⟨g, o, k, p, n, N, s, k', p', n', N', s', h1, ⟨h2, h3.more hd⟩, h4, h5.more hd⟩
end Go.Proofs.YtncebhddcokkoaaDoor
/- Equations each of which makes a variable twice the next one: mathematics. -/
namespace Go.Proofs.YtncebhddcokkoaaDoor
open Go.RowKit
set_option linter.unusedSimpArgs false
set_option linter.unusedVariables false
def tn (i : Nat) : ByteArray := ⟨#[116, UInt8.ofNat (97 + i)]⟩
/-- How many terms a tree has, at a depth. -/
theorem tsz_cnt : ∀ (d : Nat) (t : Tm), Dp d t → tszN d t = cnt2 t := by
  intro d
  induction d with
  | zero => intro t h; cases h
  | succ d ih =>
    intro t h
    obtain ⟨k, p, n, N, l⟩ := t
    rw [cnt2_eq]
    show l.foldl (fun n t => n + tszN d t) 1 = 1 + (l.map cnt2).sum
    rw [foldl_tot]
    congr 2
    exact List.map_congr_left fun x hx => ih x (h x hx)
end Go.Proofs.YtncebhddcokkoaaDoor
/- Being above what comes of two: mathematics. -/
namespace Go.Proofs.YtncebhddcokkoaaDoor
open Go.RowKit
set_option linter.unusedSimpArgs false
set_option linter.unusedVariables false
theorem So.ab {τ : ByteArray → Tm} {a b : Tm} (h : So τ a b) : Ab a b := by
  refine ⟨fun n => some (τ n), ?_⟩
  induction h with
  | var => exact .var rfl
  | con hk hl _ ih => exact .con hk hl ih
theorem sol_so {σ : ByteArray → Option Tm} {a b : Tm} (h : Sol σ a b) {τ : ByteArray → Tm} (hτ : ∀ n t, σ n = some t → τ n = t) : So τ a b := by
  induction h with
  | @var p n N l s hs => rw [← hτ n s hs]; exact .var
  | con hk hl _ ih => exact .con hk hl ih
theorem Typ.ty {t : Tm} (h : Typ t) : ∀ {d : Nat}, Dp d t → Ty d t := by
  induction h with
  | var s =>
    intro d hd
    cases d with
    | zero => cases hd
    | succ d => exact Ty.leaf s d
  | con hk h ih =>
    intro d hd
    cases d with
    | zero => cases hd
    | succ d => exact ⟨rfl, fun e => by omega, fun x hx => ih x hx (hd x hx)⟩
theorem So.tyy {σ : ByteArray → Tm} {a u : Tm} (h : So σ a u) : Tyy a → (∀ n, Oc n a → Tyy (σ n)) → Tyy u := by
  induction h with
  | var => exact fun _ h => h _ .var
  | @con k N p n l m hk hl h ih =>
    intro ha hn
    have key : ∀ x, x ∈ l → Tyy x := by
      cases ha with
      | var s => exact absurd rfl hk
      | con _ hx => exact hx
    have hN : N = (0 : Int) := by
      cases ha with
      | var s => exact absurd rfl hk
      | con _ hx => exact rfl
    subst hN
    refine .con hk fun y hy => ?_
    obtain ⟨i, hi⟩ := List.getElem?_of_mem hy
    obtain ⟨x, hx⟩ := at_both hl.symm hi
    exact ih i x y hx hi (key x (List.mem_of_getElem? hx)) fun n ho => hn n (.kid hk (List.mem_of_getElem? hx) ho)
open Classical in
/-- One type that becomes another one, no name being in both, is a solution. -/
theorem ab_sol {a b : Tm} (ha : Tyy a) (hdis : ∀ n, Oc n a → Oc n b → False) (h : Ab b a) : ∃ τ, So τ b a ∧ So τ a a := by
  obtain ⟨ρ, hρ⟩ := h
  have h1 : So (fun n => (ρ n).getD (vN n)) b a := sol_so hρ fun n t e => by show (ρ n).getD (vN n) = t; rw [e]; rfl
  refine ⟨fun n => if Oc n b then (ρ n).getD (vN n) else vN n, h1.cong fun s hs => (if_pos hs).symm, So.self ha fun s hs => if_neg fun h => hdis s hs h⟩
/-- What comes of two becomes a type that a solution leaves. -/
theorem best_back {E : List (Tm × Tm)} {ns : List ByteArray} {σ τ : ByteArray → Tm} (hB : Best E ns σ) (hτ : SolE E τ) {x u : Tm} (hx : Tyy x) (hn : ∀ n, Oc n x → n ∈ ns) (hu : So σ x u) {y : Tm} (hxx : So τ x y) : So τ u y := by
  have hty := hu.tyy hx fun n ho => hB.mgu.ty n (hn n ho)
  obtain ⟨v, hv⟩ := So.ex (σ := τ) hty
  have h := hu.trans hv fun n ho => hB.gen τ hτ n (hn n ho)
  rw [← h.det hxx]; exact hv
theorem meet_same {a b u : Tm} {ns : List ByteArray} {σ : ByteArray → Tm} (hB : Best [(a, b)] ns σ) (ha : Tyy a) (hb : Tyy b) (hna : ∀ n, Oc n a → n ∈ ns) (hnb : ∀ n, Oc n b → n ∈ ns) (hua : So σ a u) (hub : So σ b u) (hdis : ∀ n, Oc n a → Oc n b → False) :
    (Ab u a ↔ Ab b a) ∧ (Ab u b ↔ Ab a b) := by
  refine ⟨⟨fun h => hub.ab.trans h, fun h => ?_⟩, ⟨fun h => hua.ab.trans h, fun h => ?_⟩⟩
  · obtain ⟨τ, h1, h2⟩ := ab_sol ha hdis h
    exact (best_back hB (fun e he => by cases List.mem_singleton.1 he; exact ⟨a, h2, h1⟩) ha hna hua h2).ab
  · obtain ⟨τ, h1, h2⟩ := ab_sol hb (fun n h1 h2 => hdis n h2 h1) h
    exact (best_back hB (fun e he => by cases List.mem_singleton.1 he; exact ⟨b, h1, h2⟩) hb hnb hub h2).ab
theorem meet_none {a b : Tm} (ha : Tyy a) (hb : Tyy b) (hdis : ∀ n, Oc n a → Oc n b → False) (hno : ¬ ∃ τ, SolE [(a, b)] τ) : ¬ Ab a b ∧ ¬ Ab b a := by
  constructor
  · intro h
    obtain ⟨τ, h1, h2⟩ := ab_sol hb (fun n h1 h2 => hdis n h2 h1) h
    exact hno ⟨τ, fun e he => by cases List.mem_singleton.1 he; exact ⟨b, h1, h2⟩⟩
  · intro h
    obtain ⟨τ, h1, h2⟩ := ab_sol ha hdis h
    exact hno ⟨τ, fun e he => by cases List.mem_singleton.1 he; exact ⟨a, h2, h1⟩⟩
theorem sol_pair {a b u : Tm} {σ : ByteArray → Tm} (h : SolE [(a, b)] σ) (hu : So σ a u) : So σ b u := by
  obtain ⟨v, h1, h2⟩ := h (a, b) (by simp)
  rw [hu.det h1]; exact h2
theorem oc_nms {a b : Tm} {d : Nat} (ha : Dp d a) (hb : Dp d b) : (∀ n, Oc n a → n ∈ nmsE d [(a, b)]) ∧ ∀ n, Oc n b → n ∈ nmsE d [(a, b)] :=
  ⟨fun n h => mem_nmsE.2 ⟨(a, b), by simp, .inl (oc_hasV ha h)⟩, fun n h => mem_nmsE.2 ⟨(a, b), by simp, .inr (oc_hasV hb h)⟩⟩
/-- What Few tells, as a type with its kinds. -/
def FewTP (d : Nat) (t : Tm) (w : World) (e : Ending) (w' : World) : Prop := ∃ r : Bool, e = .returned (.bool r) ∧ (r = true → Sm d t ∧ tszN d t ≤ 600 ∧ Typ t) ∧ Below w.heap.size w w'
set_option maxRecDepth 100000 in
theorem fewT_any (d : Nat) (va : Value) (ta : Tm) (w : World) (h : IsT w d va ta) : Calls Tryd.prog 33 #[va] w (FewTP d ta w) := by
  have HT := Lib.hid h
  obtain ⟨d1, k1, p1, n1, N1, s1, l1, e1, rfl, e2, _, _, hk⟩ := h.open
  subst e2
  clear h e1
  obtain ⟨q1, c1, rfl, _, _⟩ := hk
  generalize l1.length = L at *
  have hB0 := below_alloc w (.cells #[.int .i64 k1, .string p1, .string n1, .int .i64 N1, .slice q1 L c1] 36)
  have hnew := Lib.hid (hb_new w (.cells #[.int .i64 k1, .string p1, .string n1, .int .i64 N1, .slice q1 L c1] 36))
  have HB0 := Lib.hid hB0
  have HT1 := Lib.hid (HT.out.below hB0)
  clear hB0
  have HC := Lib.hid (few2_any d _ _ _ HT1.out)
  go_enter Tryd.func33, Tryd.ntmps33
  go_wp2_with (first
    | (go_at_call 44; refine HC.out.mono ?_; rintro e w3 ⟨r, rfl, hr, hb⟩; have HB3 := Lib.hid hb; have HRR := Lib.hid hr; have u := hb_below hnew.out hb (by simp); have x0 := hb_at u 0 rfl; have x1 := hb_at u 1 rfl; have x2 := hb_at u 2 rfl; have x3 := hb_at u 3 rfl; have x4 := hb_at u 4 rfl; have HT3 := Lib.hid (HT1.out.below hb); clear hb hr u; cases r)
    | (go_at_call 45; refine (typ13_any d _ _ _ HT3.out).mono ?_; rintro e w5 ⟨r5, rfl, hr5, hb5⟩; have HB5 := Lib.hid hb5; have HR5 := Lib.hid hr5; clear hb5 hr5))
  · go_ret
    exact ⟨_, rfl, (by intro h; cases h), HB0.out.trans (HB3.out.mono HB0.out.size)⟩
  · have hB3 : Below w.heap.size w w3 := HB0.out.trans (HB3.out.mono HB0.out.size)
    go_ret
    refine ⟨_, rfl, fun h => ?_, hB3.trans (HB5.out.mono hB3.size)⟩
    exact ⟨(HRR.out (by simp)).1, (HRR.out (by simp)).2, HR5.out h⟩
end Go.Proofs.YtncebhddcokkoaaDoor
