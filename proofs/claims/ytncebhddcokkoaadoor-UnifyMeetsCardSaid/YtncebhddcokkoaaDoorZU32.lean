/- Texts in a row: Mb Mc Mj. -/
import Derived.Test.YtncebhddcokkoaaDoorZU31
import Derived.Deep.QuietTactic
import Derived.BigQuiet
import Derived.Deep.DeepCutAuto
import Derived.Outline
/- What the law's examples come to. -/
namespace Go.Proofs.YtncebhddcokkoaaDoor
open Go.RowKit Go.Maps
set_option linter.unusedSimpArgs false
set_option linter.unusedVariables false
def sA : ByteArray := ⟨#[97]⟩
def sB : ByteArray := ⟨#[98]⟩
def cInt : Tm := .mk 2 ⟨#[]⟩ ⟨#[105, 110, 116]⟩ 0 []
def cText : Tm := .mk 2 ⟨#[]⟩ ⟨#[116, 101, 120, 116]⟩ 0 []
def cList (t : Tm) : Tm := .mk 2 ⟨#[]⟩ ⟨#[108, 105, 115, 116]⟩ 0 [t]
theorem So.vinv {σ : ByteArray → Tm} {n : ByteArray} {u : Tm} (h : So σ (vN n) u) : u = σ n := by
  unfold vN at h
  cases h with
  | var => rfl
  | con hk => exact absurd rfl hk
theorem So.funinv {σ : ByteArray → Tm} {a b u : Tm} (h : So σ (fun13 a b) u) : ∃ x y, u = fun13 x y ∧ So σ a x ∧ So σ b y := by
  unfold fun13 at h
  cases h with
  | con hk hl h =>
    rename_i m
    match m, hl, h with
    | [x, y], _, h => exact ⟨x, y, rfl, h 0 a x rfl rfl, h 1 b y rfl rfl⟩
theorem So.coninv {σ : ByteArray → Tm} {p n : ByteArray} {u : Tm} (h : So σ (.mk 2 p n 0 []) u) : u = .mk 2 p n 0 [] := by
  cases h with
  | con hk hl h =>
    rename_i m
    match m, hl with
    | [], _ => rfl
theorem So.oneinv {σ : ByteArray → Tm} {p n : ByteArray} {t u : Tm} (h : So σ (.mk 2 p n 0 [t]) u) : ∃ x, u = .mk 2 p n 0 [x] ∧ So σ t x := by
  cases h with
  | con hk hl h =>
    rename_i m
    match m, hl, h with
    | [x], _, h => exact ⟨x, rfl, h 0 t x rfl rfl⟩
theorem so_con (σ : ByteArray → Tm) (p n : ByteArray) : So σ (.mk 2 p n 0 []) (.mk 2 p n 0 []) := .con (by decide) rfl (fun i x y h _ => by simp at h)
theorem so_fun {σ : ByteArray → Tm} {a b x y : Tm} (h1 : So σ a x) (h2 : So σ b y) : So σ (fun13 a b) (fun13 x y) := .con (by decide) rfl (fun i z z' h h' => by
  match i, h, h' with
  | 0, h, h' => obtain rfl := Option.some.inj h; obtain rfl := Option.some.inj h'; exact h1
  | 1, h, h' => obtain rfl := Option.some.inj h; obtain rfl := Option.some.inj h'; exact h2
  | i + 2, h, _ => simp at h)
def eq1 : List (Tm × Tm) := [(fun13 (vN sA) cInt, fun13 (vN sB) (vN sB))]
def eq2 : List (Tm × Tm) := [(vN sA, cList (vN sA))]
theorem eq1_sol : ∃ τ, SolE eq1 τ := ⟨fun _ => cInt, fun e he => by
  cases List.mem_singleton.1 he
  exact ⟨fun13 cInt cInt, so_fun .var (so_con _ _ _), so_fun .var .var⟩⟩
theorem eq1_one {σ : ByteArray → Tm} (h : SolE eq1 σ) : σ sA = cInt ∧ σ sB = cInt := by
  obtain ⟨u, h1, h2⟩ := h _ (List.mem_singleton.2 rfl)
  obtain ⟨x, y, rfl, hx, hy⟩ := h1.funinv
  obtain ⟨x', y', e, hx', hy'⟩ := h2.funinv
  have e1 := hx.vinv
  have e2 := hy.coninv
  have e3 := hx'.vinv
  have e4 := hy'.vinv
  unfold fun13 at e
  injection e with _ _ _ _ e
  injection e with e5 e
  injection e with e6 e
  subst e1 e2 e5 e6
  exact ⟨e3.trans e4.symm, e4.symm⟩
theorem eq2_no : ¬ ∃ τ, SolE eq2 τ := by
  rintro ⟨τ, h⟩
  obtain ⟨u, h1, h2⟩ := h _ (List.mem_singleton.2 rfl)
  have e1 := h1.vinv
  obtain ⟨x, e2, h3⟩ := h2.oneinv
  have e3 := h3.vinv
  subst e1 e3
  have e := congrArg cnt2 e2
  rw [cnt2_eq] at e
  simp at e
theorem eq1_nms : nmsE 2 eq1 = [sA, sB] := by rfl
theorem meet_one {σ : ByteArray → Tm} {u : Tm} (h : SolE [(fun13 (vN sA) cInt, fun13 cText (vN sB))] σ) (hu : So σ (fun13 (vN sA) cInt) u) : u = fun13 cText cInt := by
  obtain ⟨u', h1, h2⟩ := h _ (List.mem_singleton.2 rfl)
  obtain ⟨x, y, rfl, hx, hy⟩ := h1.funinv
  obtain ⟨x', y', e, hx', hy'⟩ := h2.funinv
  obtain ⟨x2, y2, rfl, hx2, hy2⟩ := hu.funinv
  have e1 := hx.vinv
  have e3 := hx'.coninv
  have e5 := hx2.vinv
  have e6 := hy2.coninv
  unfold fun13 at e
  injection e with _ _ _ _ e
  injection e with e7 e
  rw [e5, e6, ← e1, e7, e3]
  rfl
theorem meet_sol : ∃ τ, SolE [(fun13 (vN sA) cInt, fun13 cText (vN sB))] τ := ⟨fun n => if n = sA then cText else cInt, fun e he => by
  cases List.mem_singleton.1 he
  refine ⟨fun13 cText cInt, so_fun ?_ (so_con _ _ _), so_fun (so_con _ _ _) ?_⟩
  · have := So.var (σ := fun n => if n = sA then cText else cInt) (p := ⟨#[]⟩) (n := sA) (N := 0) (l := [])
    rw [if_pos rfl] at this
    exact this
  · have := So.var (σ := fun n => if n = sA then cText else cInt) (p := ⟨#[]⟩) (n := sB) (N := 0) (l := [])
    rw [if_neg (by decide)] at this
    exact this⟩
theorem typ_int : Typ cInt := .con (.inl rfl) (fun x h => by simp at h)
theorem typ_text : Typ cText := .con (.inl rfl) (fun x h => by simp at h)
theorem typ_fun {a b : Tm} (ha : Typ a) (hb : Typ b) : Typ (fun13 a b) := .con (.inr (.inl rfl)) (fun x h => by
  simp only [List.mem_cons, List.not_mem_nil, or_false] at h
  rcases h with rfl | rfl
  · exact ha
  · exact hb)
theorem typ_list {a : Tm} (ha : Typ a) : Typ (cList a) := .con (.inl rfl) (fun x h => by
  simp only [List.mem_cons, List.not_mem_nil, or_false] at h
  exact h ▸ ha)
theorem isT_v (w : World) (s : ByteArray) (hs : s.size ≤ maxLen) (d : Nat) : IsT w (d + 1) (tv 1 ⟨#[]⟩ s 0 (.slice none 0 0)) (vN s) := IsT.shut (by decide) hs ⟨none, 0, rfl, by simp, fun i x h => by simp at h⟩
theorem isT_c (w : World) (s : ByteArray) (hs : s.size ≤ maxLen) (d : Nat) : IsT w (d + 1) (tv 2 ⟨#[]⟩ s 0 (.slice none 0 0)) (.mk 2 ⟨#[]⟩ s 0 []) := IsT.shut (by decide) hs ⟨none, 0, rfl, by simp, fun i x h => by simp at h⟩
theorem tot1 : tot 2 eq1 ≤ 1000 := by decide
theorem tot2 : tot 2 eq2 ≤ 1000 := by decide
theorem tot3 : tot 2 [(fun13 (vN sA) cInt, fun13 cText (vN sB))] ≤ 1000 := by decide
theorem cnt_int : cnt2 cInt ≤ 1000 := by simp [cInt, cnt2]
theorem cnt_fun : cnt2 (fun13 cText cInt) ≤ 1000 := by simp [fun13, cText, cInt, cnt2]
def solL : List NT := [(sA, cInt), (sB, cInt)]
/-- The first example's answer. -/
def Sol1 (w : World) (e : Ending) (w' : World) : Prop := Below w.heap.size w w' ∧ ∃ q c, e = .returned (.tuple #[.slice q 2 c, .int .i64 0]) ∧ VAt w' 1000 (.slice q 2 c) solL
theorem sol1_any (w : World) (v : Value) (h : EqAt w 2 v eq1) : Calls Tryd.prog 12 #[v] w (Sol1 w) := by
  have hc := solve_any w 2 v eq1 h (fun x hx => by cases List.mem_singleton.1 hx; exact ⟨typ_fun (.var _) typ_int, typ_fun (.var _) (.var _)⟩) tot1 (by decide)
  refine hc.mono ?_
  rintro e w' ⟨hb, ⟨_, hno⟩ | ⟨σ, hB, ⟨v', rfl, _, hv⟩ | ⟨rfl, n, hn, hbig⟩⟩⟩
  · exact absurd eq1_sol hno
  · obtain ⟨e1, e2⟩ := eq1_one hB.sol
    rw [eq1_nms] at hv
    simp only [List.map_cons, List.map_nil, e1, e2] at hv
    obtain ⟨q, c, rfl⟩ := hv.shape
    exact ⟨hb, q, c, rfl, hv⟩
  · obtain ⟨e1, e2⟩ := eq1_one hB.sol
    rw [eq1_nms] at hn
    have hci := cnt_int
    simp only [List.mem_cons, List.not_mem_nil, or_false] at hn
    rcases hn with rfl | rfl
    · rw [e1] at hbig; omega
    · rw [e2] at hbig; omega
/-- The second's. -/
def Sol2 (w : World) (e : Ending) (w' : World) : Prop := Below w.heap.size w w' ∧ e = .returned (.tuple #[.slice none 0 0, .int .i64 15])
theorem sol2_any (w : World) (v : Value) (h : EqAt w 2 v eq2) : Calls Tryd.prog 12 #[v] w (Sol2 w) := by
  have hc := solve_any w 2 v eq2 h (fun x hx => by cases List.mem_singleton.1 hx; exact ⟨.var _, typ_list (.var _)⟩) tot2 (by decide)
  refine hc.mono ?_
  rintro e w' ⟨hb, ⟨rfl, _⟩ | ⟨σ, hB, _⟩⟩
  · exact ⟨hb, rfl⟩
  · exact absurd ⟨σ, hB.sol⟩ eq2_no
/-- The third's. -/
def Met3 (w : World) (e : Ending) (w' : World) : Prop := Below w.heap.size w w' ∧ ∃ k I p m q l c, e = .returned (.tuple #[tv k p m I (.slice q l c), .int .i64 0]) ∧ IsT w' 1000 (tv k p m I (.slice q l c)) (fun13 cText cInt)
theorem met3_any (w : World) (va vb : Value) (ha : IsT w 2 va (fun13 (vN sA) cInt)) (hb : IsT w 2 vb (fun13 cText (vN sB))) : Calls Tryd.prog 20 #[va, vb] w (Met3 w) := by
  refine (meet_any w 2 va vb _ _ ha hb ⟨typ_fun (.var _) typ_int, typ_fun typ_text (.var _)⟩ tot3).mono ?_
  rintro e w' ⟨hbl, ⟨_, hno⟩ | ⟨σ, u, hB, hu, ⟨k, I, p, m, q, l, c, rfl, hc, hi⟩ | ⟨rfl, hbig⟩⟩⟩
  · exact absurd meet_sol hno
  · have := meet_one hB.sol hu
    subst this
    exact ⟨hbl, k, I, p, m, q, l, c, rfl, hi 1000 hc⟩
  · have := meet_one hB.sol hu
    subst this
    have := cnt_fun
    omega
/-- One equation in memory. -/
theorem eqAt_one {w' : World} {d : Nat} {k k' N N' : Int} {p n p' n' : ByteArray} {s s' : Value} {ta tb : Tm} {g : Nat} {fr : Nat × Nat} {cc : Nat} (ht : w'.heap[g]? = some (.cells #[.int .i64 k, .string p, .string n, .int .i64 N, s, .int .i64 k', .string p', .string n', .int .i64 N', s'] 43 fr)) (h1 : IsT w' d (tv k p n N s) ta) (h2 : IsT w' d (tv k' p' n' N' s') tb) :
    EqAt w' d (.slice (some ⟨g, 0, none⟩) 1 cc) [(ta, tb)] := ⟨some ⟨g, 0, none⟩, cc, rfl, fun i x hx => by
    match i, hx with
    | 0, hx =>
      obtain rfl := Option.some.inj hx
      exact ⟨g, 0, k, p, n, N, _, k', p', n', N', _, rfl, ⟨⟨hb_at ht 0 rfl, hb_at ht 1 rfl, hb_at ht 2 rfl, hb_at ht 3 rfl, hb_at ht 4 rfl⟩, h1⟩, ⟨hb_at ht 5 rfl, hb_at ht 6 rfl, hb_at ht 7 rfl, hb_at ht 8 rfl, hb_at ht 9 rfl⟩, h2⟩
    | i + 1, hx => simp at hx⟩
theorem eqAt_new {w : World} {d : Nat} {k k' N N' : Int} {p n p' n' : ByteArray} {s s' : Value} {ta tb : Tm} (h1 : IsT w d (tv k p n N s) ta) (h2 : IsT w d (tv k' p' n' N' s') tb) :
    EqAt (w.alloc (.cells #[.int .i64 k, .string p, .string n, .int .i64 N, s, .int .i64 k', .string p', .string n', .int .i64 N', s'] 43)) d (.slice (some ⟨w.heap.size, 0, none⟩) 1 1) [(ta, tb)] :=
  eqAt_one (hb_new w _) (h1.below (below_alloc w _)) (h2.below (below_alloc w _))
theorem isT_list {w : World} {g d : Nat} {fr : Nat × Nat} {m : ByteArray} {t : Tm} {k N : Int} {p n : ByteArray} {s : Value} {cc : Nat} (hm : m.size ≤ maxLen) (h : w.heap[g]? = some (.cells #[.int .i64 k, .string p, .string n, .int .i64 N, s] 36 fr)) (ht : IsT w d (tv k p n N s) t) :
    IsT w (d + 1) (tv 2 ⟨#[]⟩ m 0 (.slice (some ⟨g, 0, none⟩) 1 cc)) (.mk 2 ⟨#[]⟩ m 0 [t]) := by
  refine IsT.shut (by decide) hm ⟨_, _, rfl, by simp [maxLen], fun i x hx => ?_⟩
  match i, hx with
  | 0, hx =>
    obtain rfl := Option.some.inj hx
    exact ⟨_, _, k, p, n, N, _, rfl, ⟨hb_at h 0 rfl, hb_at h 1 rfl, hb_at h 2 rfl, hb_at h 3 rfl, hb_at h 4 rfl⟩, ht⟩
  | i + 1, hx => simp at hx
end Go.Proofs.YtncebhddcokkoaaDoor
/- The law's examples, run. -/
namespace Go.Proofs.YtncebhddcokkoaaDoor
open Go.RowKit Go.Maps
set_option linter.unusedSimpArgs false
set_option linter.unusedVariables false
theorem vat_row {w : World} {g : Nat} {fr : Nat × Nat} (h : w.heap[g]? = some (.cells #[.string ⟨#[97]⟩, .int .i64 2, .string ⟨#[]⟩, .string ⟨#[105, 110, 116]⟩, .int .i64 0, .slice none 0 0, .string ⟨#[98]⟩, .int .i64 2, .string ⟨#[]⟩, .string ⟨#[105, 110, 116]⟩, .int .i64 0, .slice none 0 0] 38 fr)) : VAt w 1000 (.slice (some ⟨g, 0, none⟩) 2 2) solL := by
  refine ⟨_, 2, rfl, by decide, fun i x hx => ?_⟩
  match i, hx with
  | 0, hx =>
    obtain rfl := Option.some.inj hx
    exact ⟨g, 2, ⟨#[]⟩, ⟨#[105, 110, 116]⟩, 0, _, rfl, hb_at h 0 rfl, by decide, ⟨hb_at h 1 rfl, hb_at h 2 rfl, hb_at h 3 rfl, hb_at h 4 rfl, hb_at h 5 rfl⟩, isT_c w ⟨#[105, 110, 116]⟩ (by decide) 999⟩
  | 1, hx =>
    obtain rfl := Option.some.inj hx
    exact ⟨g, 2, ⟨#[]⟩, ⟨#[105, 110, 116]⟩, 0, _, rfl, hb_at h 6 rfl, by decide, ⟨hb_at h 7 rfl, hb_at h 8 rfl, hb_at h 9 rfl, hb_at h 10 rfl, hb_at h 11 rfl⟩, isT_c w ⟨#[105, 110, 116]⟩ (by decide) 999⟩
  | i + 2, hx => simp [solL] at hx
set_option maxRecDepth 100000 in
set_option maxHeartbeats 4000000 in
theorem alive13_any (w : World) : Calls Tryd.prog 11 #[] w (fun e w' => e = .returned (.bool true) ∧ Below w.heap.size w w') := by
  have F1 := Lib.hid (fun W => fun13_any W 1 (tv 1 ⟨#[]⟩ ⟨#[97]⟩ 0 (.slice none 0 0)) (tv 2 ⟨#[]⟩ ⟨#[105, 110, 116]⟩ 0 (.slice none 0 0)) (vN sA) cInt (isT_v W sA (by decide) 0) (isT_c W ⟨#[105, 110, 116]⟩ (by decide) 0))
  have F2 := Lib.hid (fun W => fun13_any W 1 (tv 1 ⟨#[]⟩ ⟨#[98]⟩ 0 (.slice none 0 0)) (tv 1 ⟨#[]⟩ ⟨#[98]⟩ 0 (.slice none 0 0)) (vN sB) (vN sB) (isT_v W sB (by decide) 0) (isT_v W sB (by decide) 0))
  have F3 := Lib.hid (fun W => fun13_any W 1 (tv 2 ⟨#[]⟩ ⟨#[116, 101, 120, 116]⟩ 0 (.slice none 0 0)) (tv 1 ⟨#[]⟩ ⟨#[98]⟩ 0 (.slice none 0 0)) cText (vN sB) (isT_c W ⟨#[116, 101, 120, 116]⟩ (by decide) 0) (isT_v W sB (by decide) 0))
  have F4 := Lib.hid (fun W => fun13_any W 1 (tv 2 ⟨#[]⟩ ⟨#[116, 101, 120, 116]⟩ 0 (.slice none 0 0)) (tv 2 ⟨#[]⟩ ⟨#[105, 110, 116]⟩ 0 (.slice none 0 0)) cText cInt (isT_c W ⟨#[116, 101, 120, 116]⟩ (by decide) 0) (isT_c W ⟨#[105, 110, 116]⟩ (by decide) 0))
  have HBL := Lib.hid (Below.refl w.heap.size w)
  go_enter Tryd.func11, Tryd.ntmps11
  go_upto_region 2 with (first
    | (go_at_call 31; (with_reducible refine (tv13_any _ _).mono ?_); rintro e w0 ⟨rfl, hb⟩; have HBL := Lib.hid (HBL.out.trans (hb.mono HBL.out.size)); (try have HI1 := Lib.hid (HI1.out.below hb)); clear hb)
    | (go_at_call 39; (with_reducible refine (con13_any _ _ _ _ _).mono ?_); rintro e w0 ⟨rfl, hb⟩; have HBL := Lib.hid (HBL.out.trans (hb.mono HBL.out.size)); clear hb)
    | (go_at_call 32; (with_reducible refine (F1.out _).mono ?_); rintro e w1 ⟨q1, c1, rfl, hi, hb⟩; have HBL := Lib.hid (HBL.out.trans (hb.mono HBL.out.size)); have HI1 := Lib.hid hi; clear hi hb)
    | (go_at_call 32; (with_reducible refine (F2.out _).mono ?_); rintro e w2 ⟨q2, c2, rfl, hi, hb⟩; have HBL := Lib.hid (HBL.out.trans (hb.mono HBL.out.size)); have HI1 := Lib.hid (HI1.out.below hb); have HS := Lib.hid (sol1_any _ _ (eqAt_new HI1.out hi)); have HBL := Lib.hid (HBL.out.alloc HBL.out.size (.cells #[.int .i64 3, .string ⟨#[]⟩, .string ⟨#[]⟩, .int .i64 0, .slice q1 2 c1, .int .i64 3, .string ⟨#[]⟩, .string ⟨#[]⟩, .int .i64 0, .slice q2 2 c2] 43)); clear hi hb)
    | (go_at_call 12; (with_reducible refine HS.out.mono ?_); rintro e w3 ⟨hb, qv, cv, rfl, hv⟩; have HBL := Lib.hid (HBL.out.trans (hb.mono HBL.out.size)); have HV := Lib.hid hv; clear hb hv))
  clear HS HI1
  have HV := Lib.hid (fun W (hb : Below w3.heap.size w3 W) => HV.out.below hb)
  have HB3 := Lib.hid (Below.refl w3.heap.size w3)
  go_upto_region 3 with (first
    | (go_at_call 31; (with_reducible refine (tv13_any _ _).mono ?_); rintro e w4 ⟨rfl, hb⟩; have HB3 := Lib.hid (HB3.out.trans (hb.mono HB3.out.size)); clear hb)
    | (go_at_call 39; (with_reducible refine (con13_any _ _ _ _ _).mono ?_); rintro e w5 ⟨rfl, hb⟩; have hrow := hb_below (hb_new w4 (.cells #[.int .i64 1, .string ⟨#[]⟩, .string ⟨#[97]⟩, .int .i64 0, .slice none 0 0] 36)) hb (by simp); have hi := isT_list (cc := 1) (m := ⟨#[108, 105, 115, 116]⟩) (by decide) hrow (isT_v w5 ⟨#[97]⟩ (by decide) 0); have HS := Lib.hid (sol2_any _ _ (eqAt_new (isT_v w5 ⟨#[97]⟩ (by decide) 1) hi)); have HB3 := Lib.hid (((HB3.out.alloc HB3.out.size _).trans (hb.mono (HB3.out.alloc HB3.out.size _).size)).alloc ((HB3.out.alloc HB3.out.size _).trans (hb.mono (HB3.out.alloc HB3.out.size _).size)).size (.cells #[.int .i64 1, .string ⟨#[]⟩, .string ⟨#[97]⟩, .int .i64 0, .slice none 0 0, .int .i64 2, .string ⟨#[]⟩, .string ⟨#[108, 105, 115, 116]⟩, .int .i64 0, .slice (some ⟨w4.heap.size, 0, none⟩) 1 1] 43)); clear hb hrow hi)
    | (go_at_call 12; (with_reducible refine HS.out.mono ?_); rintro e w6 ⟨hb, rfl⟩; have HB3 := Lib.hid (HB3.out.trans (hb.mono HB3.out.size)); clear hb))
  clear HS
  go_upto_region 4 with (first
    | (go_at_call 31; (with_reducible refine (tv13_any _ _).mono ?_); rintro e w7 ⟨rfl, hb⟩; have HB3 := Lib.hid (HB3.out.trans (hb.mono HB3.out.size)); (try have HI1 := Lib.hid (HI1.out.below hb)); clear hb)
    | (go_at_call 39; (with_reducible refine (con13_any _ _ _ _ _).mono ?_); rintro e w7 ⟨rfl, hb⟩; have HB3 := Lib.hid (HB3.out.trans (hb.mono HB3.out.size)); (try have HI1 := Lib.hid (HI1.out.below hb)); clear hb)
    | (go_at_call 32; (with_reducible refine (F1.out _).mono ?_); rintro e w8 ⟨q1, c1, rfl, hi, hb⟩; have HB3 := Lib.hid (HB3.out.trans (hb.mono HB3.out.size)); have HI1 := Lib.hid hi; clear hi hb)
    | (go_at_call 32; (with_reducible refine (F3.out _).mono ?_); rintro e w9 ⟨q2, c2, rfl, hi, hb⟩; have HB3 := Lib.hid (HB3.out.trans (hb.mono HB3.out.size)); have HI1 := Lib.hid (HI1.out.below hb); have HM := Lib.hid (met3_any _ _ _ HI1.out hi); clear hi hb)
    | (go_at_call 20; (with_reducible refine HM.out.mono ?_); rintro e w10 ⟨hb, k, I, p, m, q, l, c, rfl, hi⟩; have HB3 := Lib.hid (HB3.out.trans (hb.mono HB3.out.size)); have HU := Lib.hid hi; clear hb hi))
  clear HM HI1
  have HV := Lib.hid (fun W' (hb : Below (w10.alloc (.cells #[.int .i64 k, .string p, .string m, .int .i64 I, .slice q l c] 36)).heap.size (w10.alloc (.cells #[.int .i64 k, .string p, .string m, .int .i64 I, .slice q l c] 36)) W') => HV.out W' ((HB3.out.alloc HB3.out.size _).trans (hb.mono (HB3.out.alloc HB3.out.size _).size)))
  have HU := Lib.hid (fun W' (hb : Below (w10.alloc (.cells #[.int .i64 k, .string p, .string m, .int .i64 I, .slice q l c] 36)).heap.size (w10.alloc (.cells #[.int .i64 k, .string p, .string m, .int .i64 I, .slice q l c] 36)) W') => (HU.out.below (below_alloc _ _)).below hb)
  have HBL := Lib.hid (HBL.out.trans ((HB3.out.alloc HB3.out.size (.cells #[.int .i64 k, .string p, .string m, .int .i64 I, .slice q l c] 36)).mono HBL.out.size))
  have hk := hb_new w10 (.cells #[.int .i64 k, .string p, .string m, .int .i64 I, .slice q l c] 36)
  have x0 := hb_at hk 0 rfl
  have x1 := hb_at hk 1 rfl
  have x2 := hb_at hk 2 rfl
  have x3 := hb_at hk 3 rfl
  have x4 := hb_at hk 4 rfl
  clear hk HB3
  generalize w10.alloc (.cells #[.int .i64 k, .string p, .string m, .int .i64 I, .slice q l c] 36) = W at *
  go_upto_region 4 with (fail)
  refine wp_region_held_drew (S := (fun w' => RowKit.Hid (Below W.heap.size W w') ∧ w'.cell? ⟨w10.heap.size, 0, none⟩ = some (.int .i64 k) ∧ w'.cell? ⟨w10.heap.size, 1, none⟩ = some (.string p) ∧ w'.cell? ⟨w10.heap.size, 2, none⟩ = some (.string m) ∧ w'.cell? ⟨w10.heap.size, 3, none⟩ = some (.int .i64 I) ∧ w'.cell? ⟨w10.heap.size, 4, none⟩ = some (.slice q l c))) (by kernel_rfl) (by exact ⟨Lib.hid (below_drewN (Below.refl _ _) 1), x0, x1, x2, x3, x4⟩) (fun hHeld => ?_)
  refine wpAnyH_take (i := 0) (oi := ⟨some 39, _, _, _, _, _⟩) (v := ?_) rfl (by kernel_rfl) (by kernel_rfl) (by kernel_rfl) (fun _ _ _ h => h) (Or.inl ⟨by rfl, ?_⟩) (by assumption) ?_
  rotate_left
  focus (intro w hSw; (try dsimp only at hSw); go_simp; first | done | with_reducible rfl)
  try simp only [Act.put, List.setIfInBounds_toArray, List.set_cons_zero, List.set_cons_succ]
  refine wpAnyH_take (i := 2) (oi := ⟨some 41, _, _, _, _, _⟩) (v := ?_) rfl (by kernel_rfl) (by kernel_rfl) (by kernel_rfl) (fun _ _ _ h => h) (Or.inl ⟨by rfl, ?_⟩) (by assumption) ?_
  rotate_left
  focus (intro w hSw; (try dsimp only at hSw); go_simp; first | done | with_reducible rfl)
  try simp only [Act.put, List.setIfInBounds_toArray, List.set_cons_zero, List.set_cons_succ]
  refine wpAnyH_ready (rs := [1]) (by kernel_rfl) (by simp) ?_
  refine AllReadyH.cons (o := ⟨some 40, _, _, _, _, _⟩) rfl (fun K hK => ?_) AllReadyH.nil
  go_simp
  (with_reducible refine (no13_any _ _).mono ?_); rintro e v1 ⟨rfl, hb⟩
  go_wp2_with fail
  refine hK.out _ _ (by exact ⟨Lib.hid (hHeld.1.out.trans (hb.mono hHeld.1.out.size)), keep_cell hb hHeld.2.1, keep_cell hb hHeld.2.2.1, keep_cell hb hHeld.2.2.2.1, keep_cell hb hHeld.2.2.2.2.1, keep_cell hb hHeld.2.2.2.2.2⟩) (fun hNew => ?_)
  clear hK K
  clear hHeld hb; have hHeld := hNew; clear hNew
  try simp only [Act.put, List.setIfInBounds_toArray, List.set_cons_zero, List.set_cons_succ]
  refine wpAnyH_ready (rs := [3]) (by kernel_rfl) (by simp) ?_
  refine AllReadyH.cons (o := ⟨some 42, _, _, _, _, _⟩) rfl (fun K hK => ?_) AllReadyH.nil
  go_simp
  (with_reducible refine (no13_any _ _).mono ?_); rintro e v2 ⟨rfl, hb⟩
  go_wp2_with fail
  refine hK.out _ _ (by exact ⟨Lib.hid (hHeld.1.out.trans (hb.mono hHeld.1.out.size)), keep_cell hb hHeld.2.1, keep_cell hb hHeld.2.2.1, keep_cell hb hHeld.2.2.2.1, keep_cell hb hHeld.2.2.2.2.1, keep_cell hb hHeld.2.2.2.2.2⟩) (fun hNew => ?_)
  clear hK K
  clear hHeld hb; have hHeld := hNew; clear hNew
  try simp only [Act.put, List.setIfInBounds_toArray, List.set_cons_zero, List.set_cons_succ]
  refine wpAnyH_take (i := 4) (oi := ⟨some 43, _, _, _, _, _⟩) (v := .int .i64 0) rfl (by kernel_rfl) (by kernel_rfl) (by kernel_rfl) (fun _ _ _ h => h) (Or.inl ⟨by rfl, ?_⟩) (by assumption) ?_
  focus (intro w hSw; (try dsimp only at hSw); go_simp; first | done | rfl | (simp; done) | decide)
  try simp only [Act.put, List.setIfInBounds_toArray, List.set_cons_zero, List.set_cons_succ]
  refine wpAnyH_take (i := 5) (oi := ⟨some 44, _, _, _, _, _⟩) (v := .bool true) rfl (by kernel_rfl) (by kernel_rfl) (by kernel_rfl) (fun _ _ _ h => h) (Or.inl ⟨by rfl, ?_⟩) (by assumption) ?_
  focus (intro w hSw; (try dsimp only at hSw); go_simp; first | done | rfl | (simp; done) | decide)
  try simp only [Act.put, List.setIfInBounds_toArray, List.set_cons_zero, List.set_cons_succ]
  refine wpAnyH_take (i := 6) (oi := ⟨some 45, _, _, _, _, _⟩) (v := ?_) rfl (by kernel_rfl) (by kernel_rfl) (by kernel_rfl) (fun _ _ _ h => h) (Or.inl ⟨by rfl, ?_⟩) (by assumption) ?_
  rotate_left
  focus (intro w hSw; (try dsimp only at hSw); go_simp; first | done | with_reducible rfl)
  try simp only [Act.put, List.setIfInBounds_toArray, List.set_cons_zero, List.set_cons_succ]
  refine wpAnyH_take (i := 7) (oi := ⟨some 46, _, _, _, _, _⟩) (v := ?_) rfl (by kernel_rfl) (by kernel_rfl) (by kernel_rfl) (fun _ _ _ h => h) (Or.inl ⟨by rfl, ?_⟩) (by assumption) ?_
  rotate_left
  focus (intro w hSw; (try dsimp only at hSw); go_simp; first | done | with_reducible rfl)
  try simp only [Act.put, List.setIfInBounds_toArray, List.set_cons_zero, List.set_cons_succ]
  refine wpAnyH_ready (rs := [8]) (by kernel_rfl) (by simp) ?_
  refine AllReadyH.cons (o := ⟨some 47, _, _, _, _, _⟩) rfl (fun K hK => ?_) AllReadyH.nil
  go_simp
  (with_reducible refine (con13_any _ _ _ _ _).mono ?_); rintro e v3 ⟨rfl, hb⟩
  go_wp2_with fail
  refine hK.out _ _ (by exact ⟨Lib.hid (hHeld.1.out.trans (hb.mono hHeld.1.out.size)), keep_cell hb hHeld.2.1, keep_cell hb hHeld.2.2.1, keep_cell hb hHeld.2.2.2.1, keep_cell hb hHeld.2.2.2.2.1, keep_cell hb hHeld.2.2.2.2.2⟩) (fun hNew => ?_)
  clear hK K
  clear hHeld hb; have hHeld := hNew; clear hNew
  try simp only [Act.put, List.setIfInBounds_toArray, List.set_cons_zero, List.set_cons_succ]
  refine wpAnyH_take (i := 9) (oi := ⟨some 48, _, _, _, _, _⟩) (v := ?_) rfl (by kernel_rfl) (by kernel_rfl) (by kernel_rfl) (fun _ _ _ h => h) (Or.inl ⟨by rfl, ?_⟩) (by assumption) ?_
  rotate_left
  focus (intro w hSw; (try dsimp only at hSw); go_simp; first | done | with_reducible rfl)
  try simp only [Act.put, List.setIfInBounds_toArray, List.set_cons_zero, List.set_cons_succ]
  refine wpAnyH_ready (rs := [10]) (by kernel_rfl) (by simp) ?_
  refine AllReadyH.cons (o := ⟨some 49, _, _, _, _, _⟩) rfl (fun K hK => ?_) AllReadyH.nil
  go_simp
  (with_reducible refine (con13_any _ _ _ _ _).mono ?_); rintro e v4 ⟨rfl, hb⟩
  go_wp2_with fail
  refine hK.out _ _ (by exact ⟨Lib.hid (hHeld.1.out.trans (hb.mono hHeld.1.out.size)), keep_cell hb hHeld.2.1, keep_cell hb hHeld.2.2.1, keep_cell hb hHeld.2.2.2.1, keep_cell hb hHeld.2.2.2.2.1, keep_cell hb hHeld.2.2.2.2.2⟩) (fun hNew => ?_)
  clear hK K
  clear hHeld hb; have hHeld := hNew; clear hNew
  try simp only [Act.put, List.setIfInBounds_toArray, List.set_cons_zero, List.set_cons_succ]
  refine wpAnyH_take (i := 11) (oi := ⟨some 50, _, _, _, _, _⟩) (v := ?_) rfl (by kernel_rfl) (by kernel_rfl) (by kernel_rfl) (fun _ _ _ h => h) (Or.inl ⟨by rfl, ?_⟩) (by assumption) ?_
  rotate_left
  focus (intro w hSw; (try dsimp only at hSw); go_simp; first | done | with_reducible rfl)
  try simp only [Act.put, List.setIfInBounds_toArray, List.set_cons_zero, List.set_cons_succ]
  refine wpAnyH_ready (rs := [12]) (by kernel_rfl) (by simp) ?_
  refine AllReadyH.cons (o := ⟨some 51, _, _, _, _, _⟩) rfl (fun K hK => ?_) AllReadyH.nil
  go_simp
  have hb := below_alloc v4 (.cells #[.string ⟨#[97]⟩, .int .i64 2, .string ⟨#[]⟩, .string ⟨#[105, 110, 116]⟩, .int .i64 0, .slice none 0 0, .string ⟨#[98]⟩, .int .i64 2, .string ⟨#[]⟩, .string ⟨#[105, 110, 116]⟩, .int .i64 0, .slice none 0 0] 38); have HSM := Lib.hid (usame_any 1000 _ _ solL _ (HV.out _ (hHeld.1.out.trans (hb.mono hHeld.1.out.size))) (vat_row (hb_new v4 (.cells #[.string ⟨#[97]⟩, .int .i64 2, .string ⟨#[]⟩, .string ⟨#[105, 110, 116]⟩, .int .i64 0, .slice none 0 0, .string ⟨#[98]⟩, .int .i64 2, .string ⟨#[]⟩, .string ⟨#[105, 110, 116]⟩, .int .i64 0, .slice none 0 0] 38))))
  go_wp2_with fail
  refine hK.out _ _ (by exact ⟨Lib.hid (hHeld.1.out.trans (hb.mono hHeld.1.out.size)), keep_cell hb hHeld.2.1, keep_cell hb hHeld.2.2.1, keep_cell hb hHeld.2.2.2.1, keep_cell hb hHeld.2.2.2.2.1, keep_cell hb hHeld.2.2.2.2.2⟩) (fun hNew => ?_)
  clear hK K
  clear hHeld hb; have hHeld := hNew; clear hNew
  try simp only [Act.put, List.setIfInBounds_toArray, List.set_cons_zero, List.set_cons_succ]
  refine wpAnyH_ready (rs := [13]) (by kernel_rfl) (by simp) ?_
  refine AllReadyH.cons (o := ⟨some 52, _, _, _, _, _⟩) rfl (fun K hK => ?_) AllReadyH.nil
  go_simp
  (with_reducible refine HSM.out.mono ?_); rintro e v5 ⟨rfl, hb⟩
  go_wp2_with fail
  refine hK.out _ _ (by exact ⟨Lib.hid (hHeld.1.out.trans (hb.mono hHeld.1.out.size)), keep_cell hb hHeld.2.1, keep_cell hb hHeld.2.2.1, keep_cell hb hHeld.2.2.2.1, keep_cell hb hHeld.2.2.2.2.1, keep_cell hb hHeld.2.2.2.2.2⟩) (fun hNew => ?_)
  clear hK K
  clear hHeld hb; have hHeld := hNew; clear hNew
  try simp only [Act.put, List.setIfInBounds_toArray, List.set_cons_zero, List.set_cons_succ]
  refine wpAnyH_take (i := 14) (oi := ⟨some 53, _, _, _, _, _⟩) (v := ?_) rfl (by kernel_rfl) (by kernel_rfl) (by kernel_rfl) (fun _ _ _ h => h) (Or.inl ⟨by rfl, ?_⟩) (by assumption) ?_
  rotate_left
  focus (intro w hSw; (try dsimp only at hSw); go_simp; first | done | with_reducible rfl)
  try simp only [Act.put, List.setIfInBounds_toArray, List.set_cons_zero, List.set_cons_succ]
  refine wpAnyH_take (i := 15) (oi := ⟨some 54, _, _, _, _, _⟩) (v := ?_) rfl (by kernel_rfl) (by kernel_rfl) (by kernel_rfl) (fun _ _ _ h => h) (Or.inl ⟨by rfl, ?_⟩) (by assumption) ?_
  rotate_left
  focus (intro w hSw; (try dsimp only at hSw); go_simp; first | done | with_reducible rfl)
  try simp only [Act.put, List.setIfInBounds_toArray, List.set_cons_zero, List.set_cons_succ]
  refine wpAnyH_take (i := 16) (oi := ⟨some 55, _, _, _, _, _⟩) (v := ?_) rfl (by kernel_rfl) (by kernel_rfl) (by kernel_rfl) (fun _ _ _ h => h) (Or.inl ⟨by rfl, ?_⟩) (by assumption) ?_
  rotate_left
  focus (intro w hSw; (try dsimp only at hSw); go_simp; first | done | with_reducible rfl)
  try simp only [Act.put, List.setIfInBounds_toArray, List.set_cons_zero, List.set_cons_succ]
  refine wpAnyH_ready (rs := [17]) (by kernel_rfl) (by simp) ?_
  refine AllReadyH.cons (o := ⟨some 56, _, _, _, _, _⟩) rfl (fun K hK => ?_) AllReadyH.nil
  go_simp
  (with_reducible refine (no13_any _ _).mono ?_); rintro e v6 ⟨rfl, hb⟩
  go_wp2_with fail
  refine hK.out _ _ (by exact ⟨Lib.hid (hHeld.1.out.trans (hb.mono hHeld.1.out.size)), keep_cell hb hHeld.2.1, keep_cell hb hHeld.2.2.1, keep_cell hb hHeld.2.2.2.1, keep_cell hb hHeld.2.2.2.2.1, keep_cell hb hHeld.2.2.2.2.2⟩) (fun hNew => ?_)
  clear hK K
  clear hHeld hb; have hHeld := hNew; clear hNew
  try simp only [Act.put, List.setIfInBounds_toArray, List.set_cons_zero, List.set_cons_succ]
  refine wpAnyH_take (i := 18) (oi := ⟨some 57, _, _, _, _, _⟩) (v := .bool true) rfl (by kernel_rfl) (by kernel_rfl) (by kernel_rfl) (fun _ _ _ h => h) (Or.inl ⟨by rfl, ?_⟩) (by assumption) ?_
  focus (intro w hSw; (try dsimp only at hSw); go_simp; first | done | rfl | (simp; done) | decide)
  try simp only [Act.put, List.setIfInBounds_toArray, List.set_cons_zero, List.set_cons_succ]
  refine wpAnyH_take (i := 19) (oi := ⟨some 58, _, _, _, _, _⟩) (v := ?_) rfl (by kernel_rfl) (by kernel_rfl) (by kernel_rfl) (fun _ _ _ h => h) (Or.inl ⟨by rfl, ?_⟩) (by assumption) ?_
  rotate_left
  focus (intro w hSw; (try dsimp only at hSw); go_simp; first | done | with_reducible rfl)
  try simp only [Act.put, List.setIfInBounds_toArray, List.set_cons_zero, List.set_cons_succ]
  refine wpAnyH_take (i := 20) (oi := ⟨some 59, _, _, _, _, _⟩) (v := ?_) rfl (by kernel_rfl) (by kernel_rfl) (by kernel_rfl) (fun _ _ _ h => h) (Or.inl ⟨by rfl, ?_⟩) (by assumption) ?_
  rotate_left
  focus (intro w hSw; (try dsimp only at hSw); go_simp; first | done | with_reducible rfl)
  try simp only [Act.put, List.setIfInBounds_toArray, List.set_cons_zero, List.set_cons_succ]
  refine wpAnyH_take (i := 21) (oi := ⟨some 60, _, _, _, _, _⟩) (v := ?_) rfl (by kernel_rfl) (by kernel_rfl) (by kernel_rfl) (fun _ _ _ h => h) (Or.inl ⟨by rfl, ?_⟩) (by assumption) ?_
  rotate_left
  focus (intro w hSw; (try dsimp only at hSw); go_simp; first | done | with_reducible rfl)
  try simp only [Act.put, List.setIfInBounds_toArray, List.set_cons_zero, List.set_cons_succ]
  refine wpAnyH_ready (rs := [22]) (by kernel_rfl) (by simp) ?_
  refine AllReadyH.cons (o := ⟨some 61, _, _, _, _, _⟩) rfl (fun K hK => ?_) AllReadyH.nil
  go_simp
  (with_reducible refine (con13_any _ _ _ _ _).mono ?_); rintro e v7 ⟨rfl, hb⟩
  go_wp2_with fail
  refine hK.out _ _ (by exact ⟨Lib.hid (hHeld.1.out.trans (hb.mono hHeld.1.out.size)), keep_cell hb hHeld.2.1, keep_cell hb hHeld.2.2.1, keep_cell hb hHeld.2.2.2.1, keep_cell hb hHeld.2.2.2.2.1, keep_cell hb hHeld.2.2.2.2.2⟩) (fun hNew => ?_)
  clear hK K
  clear hHeld hb; have hHeld := hNew; clear hNew
  try simp only [Act.put, List.setIfInBounds_toArray, List.set_cons_zero, List.set_cons_succ]
  refine wpAnyH_ready (rs := [23]) (by kernel_rfl) (by simp) ?_
  refine AllReadyH.cons (o := ⟨some 62, _, _, _, _, _⟩) rfl (fun K hK => ?_) AllReadyH.nil
  go_simp
  (with_reducible refine (con13_any _ _ _ _ _).mono ?_); rintro e v8 ⟨rfl, hb⟩
  go_wp2_with fail
  refine hK.out _ _ (by exact ⟨Lib.hid (hHeld.1.out.trans (hb.mono hHeld.1.out.size)), keep_cell hb hHeld.2.1, keep_cell hb hHeld.2.2.1, keep_cell hb hHeld.2.2.2.1, keep_cell hb hHeld.2.2.2.2.1, keep_cell hb hHeld.2.2.2.2.2⟩) (fun hNew => ?_)
  clear hK K
  clear hHeld hb; have hHeld := hNew; clear hNew
  try simp only [Act.put, List.setIfInBounds_toArray, List.set_cons_zero, List.set_cons_succ]
  refine wpAnyH_ready (rs := [24]) (by kernel_rfl) (by simp) ?_
  refine AllReadyH.cons (o := ⟨some 63, _, _, _, _, _⟩) rfl (fun K hK => ?_) AllReadyH.nil
  go_simp
  (with_reducible refine (F4.out _).mono ?_); rintro e v9 ⟨q9, c9, rfl, hi, hb⟩; have HI9 := Lib.hid hi; clear hi
  go_wp2_with fail
  refine hK.out _ _ (by exact ⟨Lib.hid (hHeld.1.out.trans (hb.mono hHeld.1.out.size)), keep_cell hb hHeld.2.1, keep_cell hb hHeld.2.2.1, keep_cell hb hHeld.2.2.2.1, keep_cell hb hHeld.2.2.2.2.1, keep_cell hb hHeld.2.2.2.2.2⟩) (fun hNew => ?_)
  clear hK K
  clear hHeld hb; have hHeld := hNew; clear hNew
  try simp only [Act.put, List.setIfInBounds_toArray, List.set_cons_zero, List.set_cons_succ]
  refine wpAnyH_ready (rs := [25]) (by kernel_rfl) (by simp) ?_
  refine AllReadyH.cons (o := ⟨some 64, _, _, _, _, _⟩) rfl (fun K hK => ?_) AllReadyH.nil
  go_simp
  have hsm := refSame_any 1000 _ _ _ _ v9 (HU.out _ hHeld.1.out) (HI9.out.more (by decide)); (with_reducible refine hsm.mono ?_); rintro e v10 ⟨he, hb⟩; rw [same_self] at he; subst he; clear hsm
  go_wp2_with fail
  refine hK.out _ _ (by exact ⟨Lib.hid (hHeld.1.out.trans (hb.mono hHeld.1.out.size)), keep_cell hb hHeld.2.1, keep_cell hb hHeld.2.2.1, keep_cell hb hHeld.2.2.2.1, keep_cell hb hHeld.2.2.2.2.1, keep_cell hb hHeld.2.2.2.2.2⟩) (fun hNew => ?_)
  clear hK K
  clear hHeld hb; have hHeld := hNew; clear hNew
  try simp only [Act.put, List.setIfInBounds_toArray, List.set_cons_zero, List.set_cons_succ]
  refine wpAnyH_take (i := 26) (oi := ⟨some 65, _, _, _, _, _⟩) (v := ?_) rfl (by kernel_rfl) (by kernel_rfl) (by kernel_rfl) (fun _ _ _ h => h) (Or.inl ⟨by rfl, ?_⟩) (by assumption) ?_
  rotate_left
  focus (intro w hSw; (try dsimp only at hSw); go_simp; first | done | with_reducible rfl)
  try simp only [Act.put, List.setIfInBounds_toArray, List.set_cons_zero, List.set_cons_succ]
  refine wpAnyH_take (i := 27) (oi := ⟨some 0, _, _, _, _, _⟩) (v := ?_) rfl (by kernel_rfl) (by kernel_rfl) (by kernel_rfl) (fun _ _ _ h => h) (Or.inl ⟨by rfl, ?_⟩) (by assumption) ?_
  rotate_left
  focus (intro w hSw; (try dsimp only at hSw); go_simp; first | done | with_reducible rfl)
  try simp only [Act.put, List.setIfInBounds_toArray, List.set_cons_zero, List.set_cons_succ]
  refine wpAnyH_done (by kernel_rfl) ?_ _
  go_wp2
  go_ret
  exact ⟨rfl, HBL.out.trans (hHeld.1.out.mono HBL.out.size)⟩
end Go.Proofs.YtncebhddcokkoaaDoor
/- Which terms are types, told more closely. -/
namespace Go.Proofs.YtncebhddcokkoaaDoor
open Go.RowKit
set_option linter.unusedVariables false
def TypP (d : Nat) (t : Tm) (w : World) (e : Ending) (w' : World) : Prop := ∃ r : Bool, e = .returned (.bool r) ∧ (r = true → Typ t) ∧ Below w.heap.size w w'
set_option maxRecDepth 100000 in
set_option maxHeartbeats 4000000 in
theorem typ13_any (d : Nat) : ∀ (va : Value) (ta : Tm) (w : World), IsT w d va ta → Calls Tryd.prog 45 #[va] w (TypP d ta w) := by
  induction d with
  | zero => intro va ta w h; cases h
  | succ d ih =>
    intro va ta w ha
    obtain ⟨d1, k1, p1, n1, N1, s1, l1, e1, rfl, rfl, hp1, hn1, hk1⟩ := ha.open
    obtain rfl : d = d1 := by omega
    obtain ⟨q1, c1, hs1, hm1, hr1⟩ := hk1
    subst hs1
    have HR1 := Lib.hid hr1
    clear ha e1 hr1
    unfold maxLen at hm1 hp1 hn1
    have HIH := Lib.hid ih
    clear ih
    generalize hL : l1.length = L at *
    have HL := Lib.hid hL
    clear hL
    have hnew := Lib.hid (hb_new w (.cells #[.int .i64 k1, .string p1, .string n1, .int .i64 N1, .slice q1 L c1] 36))
    have HB0 := Lib.hid (below_alloc w (.cells #[.int .i64 k1, .string p1, .string n1, .int .i64 N1, .slice q1 L c1] 36))
    by_cases h1 : k1 < 1
    · skip
      go_enter Tryd.func45, Tryd.ntmps45
      go_wp2
      go_ret
      exact ⟨_, rfl, (by intro h; cases h), HB0.out⟩
    by_cases h2 : 4 < k1
    · have h1' : decide (k1 < 1) = false := by simpa using h1
      go_enter Tryd.func45, Tryd.ntmps45
      go_wp2
      go_ret
      exact ⟨_, rfl, (by intro h; cases h), HB0.out⟩
    have h1' : decide (k1 < 1) = false := by simpa using h1
    have h2' : decide (4 < k1) = false := by simpa using h2
    by_cases h3 : N1 = 0
    rotate_left
    · have h3' : (N1 != 0) = true := by simpa using h3
      go_enter Tryd.func45, Tryd.ntmps45
      go_wp2
      go_ret
      exact ⟨_, rfl, (by intro h; cases h), HB0.out⟩
    subst h3
    by_cases h5 : k1 = 1
    · subst h5
      clear h1 h2 h1' h2'
      by_cases h6 : L = 0
      · subst h6
        by_cases h7 : p1 = ⟨#[]⟩
        · subst h7
          go_enter Tryd.func45, Tryd.ntmps45
          go_upto_region 3 with fail
          generalize hW1 : w.alloc (.cells #[.int .i64 1, .string ⟨#[]⟩, .string n1, .int .i64 0, .slice q1 0 c1] 36) = W1 at *
          have hzw : w.heap.size + 1 ≤ W1.heap.size := by rw [← hW1]; simp
          clear hW1
          go_wp2
          go_loopw [3] (fun i wr => ∃ k : Nat, k ≤ 0 ∧ i = .int .i64 k ∧ Below W1.heap.size W1 wr ∧ ∀ (i : Nat) (x : Tm), i < k → l1[i]? = some x → Typ x) (fun i _ => 0 - (intOf i).toNat)
          case atStart => exact ⟨0, Nat.zero_le _, rfl, Below.refl _ _, fun i x hi => absurd hi (by omega)⟩
          case round =>
            obtain ⟨k, hk, rfl, hB, hty⟩ := hrel
            have HTY := Lib.hid hty
            clear hty
            have hzr := hB.size
            have HB := Lib.hid hB
            have m4 : wr.cell? ⟨w.heap.size, 4, none⟩ = some (.slice q1 0 c1) := (hB.cell (p := ⟨w.heap.size, 4, none⟩) (by simp; omega)).trans (hb_at hnew.out 4 rfl)
            by_cases hlt : k < 0
            · exact absurd hlt (by omega)
            · obtain rfl : k = 0 := by omega
              go_wp2
              go_ret
              exact ⟨_, rfl, (fun _ => by rw [List.length_eq_zero_iff.1 HL.out]; exact .var n1), HB0.out.trans (HB.out.mono (by omega))⟩
        · have h7d : p1.toList.isEmpty = false := by
            cases h : p1.toList.isEmpty with
            | false => rfl
            | true =>
              refine absurd (toList_inj (b := ⟨#[]⟩) ?_) h7
              rw [List.isEmpty_iff.1 h, ByteArray.toList_eq]
          clear h7
          go_enter Tryd.func45, Tryd.ntmps45
          go_wp2
          go_ret
          exact ⟨_, rfl, (by intro h; cases h), HB0.out⟩
      · have h6' : (0 : Int) < (L : Int) := by omega
        go_enter Tryd.func45, Tryd.ntmps45
        go_wp2
        go_ret
        exact ⟨_, rfl, (by intro h; cases h), HB0.out⟩
    · have h5' : (k1 == 1) = false := by simpa using h5
      go_enter Tryd.func45, Tryd.ntmps45
      go_upto_region 3 with fail
      generalize hW1 : w.alloc (.cells #[.int .i64 k1, .string p1, .string n1, .int .i64 0, .slice q1 L c1] 36) = W1 at *
      have hzw : w.heap.size + 1 ≤ W1.heap.size := by rw [← hW1]; simp
      clear hW1
      go_wp2
      go_loopw [3] (fun i wr => ∃ k : Nat, k ≤ L ∧ i = .int .i64 k ∧ Below W1.heap.size W1 wr ∧ ∀ (i : Nat) (x : Tm), i < k → l1[i]? = some x → Typ x) (fun i _ => L - (intOf i).toNat)
      case atStart => exact ⟨0, Nat.zero_le _, rfl, Below.refl _ _, fun i x hi => absurd hi (by omega)⟩
      case round =>
        obtain ⟨k, hk, rfl, hB, hty⟩ := hrel
        have HTY := Lib.hid hty
        clear hty
        have hzr := hB.size
        have HB := Lib.hid hB
        have m4 : wr.cell? ⟨w.heap.size, 4, none⟩ = some (.slice q1 L c1) := (hB.cell (p := ⟨w.heap.size, 4, none⟩) (by simp; omega)).trans (hb_at hnew.out 4 rfl)
        by_cases hlt : k < L
        · have hx1 : ∃ x, l1[k]? = some x := ⟨_, List.getElem?_eq_getElem (by have := HL.out; omega)⟩
          obtain ⟨x, hx1⟩ := hx1
          obtain ⟨b1, o1, k1', p1', n1', N1', s1', hq1, ha1, ht1⟩ := HR1.out k x hx1
          subst hq1
          have hBR : Below w.heap.size w wr := HB0.out.trans (hB.mono (by omega))
          obtain ⟨x0, x1, x2, x3, x4⟩ := ha1.below hBR ha1.lt
          have HC : RowKit.Hid (Calls Tryd.prog 45 #[tv k1' p1' n1' N1' s1'] wr (TypP d x wr)) := Lib.hid (HIH.out _ _ wr (ht1.below hBR))
          have hki : (k : Int) < (L : Int) := by omega
          have HX1 := Lib.hid hx1
          clear hx1 ht1 ha1 hB hBR
          go_upto_region 6 with fail
          go_cut [46] (fun v wx => ∃ r : Bool, v = .bool (!r) ∧ (r = true → Typ x) ∧ Below wr.heap.size wr wx)
          case first =>
            go_wp2_with (go_at_call 45; refine HC.out.mono ?_; rintro e w3 ⟨r, rfl, hr, hb⟩; have HRT := Lib.hid hr; clear hr)
            go_meet
            exact ⟨r, rfl, HRT.out, hb⟩
          case rest =>
            obtain ⟨r, rfl, hr, hb⟩ := hcut
            have HRT := Lib.hid hr
            clear hr
            have HQ := Lib.hid (HB.out.trans (hb.mono hzr))
            cases r
            · go_wp2
              go_ret
              exact ⟨_, rfl, (by intro h; cases h), HB0.out.trans (HQ.out.mono (by omega))⟩
            · go_wp2
              go_roundw
              case rel =>
                refine ⟨k + 1, by omega, by go_num, HQ.out, fun i y hi hy => ?_⟩
                by_cases hik : i < k
                · exact HTY.out i y hik hy
                · obtain rfl : i = k := by omega
                  rw [HX1.out] at hy
                  cases hy
                  exact HRT.out rfl
              case measure => simp [intOf]; omega
        · obtain rfl : k = L := by omega
          go_wp2
          go_ret
          refine ⟨_, rfl, (fun _ => .con (by omega) (fun y hy => ?_)), HB0.out.trans (HB.out.mono (by omega))⟩
          obtain ⟨i, hi⟩ := List.getElem?_of_mem hy
          exact HTY.out i y (by have h9 := (List.getElem?_eq_some_iff.1 hi).1; have h8 := HL.out; omega) hi
end Go.Proofs.YtncebhddcokkoaaDoor
