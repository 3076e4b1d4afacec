/- Texts in a row: Fd Fe Th. -/
import Derived.Test.YtncebhddcokkoaaDoorZU37
import Derived.Test.YtncebhddcokkoaaDoorZU36
import Derived.Test.YtncebhddcokkoaaDoorZU14
import Derived.Test.YtncebhddcokkoaaDoorZU33
import Derived.Test.YtncebhddcokkoaaDoorZU11
import Derived.Test.YtncebhddcokkoaaDoorZU32
import Derived.Test.YtncebhddcokkoaaDoorZU1
import Derived.ProofKit
import Derived.LaidMore
import Derived.OpenShut
import Derived.ShutString
import Derived.ChangeOld
import Derived.ChangeSlices
import Derived.Lib.SmallJoins
import Derived.Stop.Joined
/- What comes of two, both ways: mathematics. -/
namespace Go.Proofs.YtncebhddcokkoaaDoor
open Go.RowKit
set_option linter.unusedSimpArgs false
set_option linter.unusedVariables false
theorem so_occ {σ : ByteArray → Tm} {t u : Tm} (h : So σ t u) : ∀ {v : ByteArray}, Oc v u → ∃ n, Oc n t ∧ Oc v (σ n) := by
  induction h with
  | @var p n N l => intro v ho; exact ⟨n, .var, ho⟩
  | con hk hl h ih =>
    intro v ho
    rcases ho.inv rfl with ⟨e, _⟩ | ⟨_, y, hy, ho⟩
    · exact absurd e hk
    · obtain ⟨i, hi⟩ := List.getElem?_of_mem hy
      obtain ⟨x, hx⟩ := at_both hl.symm hi
      obtain ⟨n, h1, h2⟩ := ih i x y hx hi ho
      exact ⟨n, .kid hk (List.mem_of_getElem? hx) h1, h2⟩
theorem Tyy.ty {t : Tm} (h : Tyy t) : ∀ {d : Nat}, Dp d t → Ty d t := by
  induction h with
  | var s =>
    intro d hd
    cases d with
    | zero => cases hd
    | succ d => exact Ty.leaf s d
  | con hk h ih =>
    intro d hd
    cases d with
    | zero => cases hd
    | succ d => exact ⟨rfl, fun e => absurd e hk, fun x hx => ih x hx (hd x hx)⟩
theorem sole_swap {a b : Tm} {τ : ByteArray → Tm} (h : SolE [(a, b)] τ) : SolE [(b, a)] τ := fun e he => by
  cases List.mem_singleton.1 he
  obtain ⟨u, h1, h2⟩ := h (a, b) (by simp)
  exact ⟨u, h2, h1⟩
theorem vars_few {D : Nat} {t : Tm} {ns : List ByteArray} (ht : Tyy t) (h : ∀ n, Oc n t → n ∈ ns) : (varsT D [] t).length ≤ ns.length :=
  nodup_le (vars_nodup (by simp)) fun v hv => by
    have h1 := (inN_varsT D [] t).1 (inN_iffL.2 hv)
    rcases h1 with h1 | h1
    · exact absurd (inN_iffL.1 h1) (by simp)
    · exact h v (hasV_oc ht h1)
/-- What is known of what comes of two. -/
structure MOk (u : Tm) : Prop where
  tyy : Tyy u
  few : ∀ D, (varsT D [] u).length ≤ 260
theorem best_mok {a b u : Tm} {d : Nat} {ns : List ByteArray} {σ : ByteArray → Tm} (hB : Best [(a, b)] ns σ) (hl : ns.length ≤ 260) (ha : Tyy a) (hn : ∀ n, Oc n a → n ∈ ns) (hu : So σ a u) : MOk u := by
  have hty := hu.tyy ha fun n ho => hB.mgu.ty n (hn n ho)
  refine ⟨hty, fun D => Nat.le_trans (vars_few hty fun n ho => ?_) hl⟩
  obtain ⟨m, h1, h2⟩ := so_occ hu ho
  exact (hB.mgu.oc m (hn m h1) n h2).1
theorem meet_two {a b u z : Tm} {ns ns' : List ByteArray} {σ σ' : ByteArray → Tm} (hB : Best [(a, b)] ns σ) (hB' : Best [(b, a)] ns' σ') (ha : Tyy a) (hn : ∀ n, Oc n a → n ∈ ns) (hn' : ∀ n, Oc n a → n ∈ ns') (hu : So σ a u) (hz : So σ' b z) :
    (Ab u z ∧ Ab z u) ∧ cnt2 u = cnt2 z := by
  have hz' : So σ' a z := sol_pair hB'.sol hz
  have h1 : So σ' u z := best_back hB (sole_swap hB'.sol) ha hn hu hz'
  have h2 : So σ z u := best_back hB' (sole_swap hB.sol) ha hn' hz' hu
  have t1 := hu.tyy ha fun n ho => hB.mgu.ty n (hn n ho)
  have t2 := hz'.tyy ha fun n ho => hB'.mgu.ty n (hn' n ho)
  exact ⟨⟨h1.ab, h2.ab⟩, Nat.le_antisymm (h1.size t1) (h2.size t2)⟩
theorem nms_few {d : Nat} {a b : Tm} (h : tot d [(a, b)] ≤ 60) : (nmsE d [(a, b)]).length ≤ 260 := by
  have := nms_len d [(a, b)]
  omega
/-- What Meet answers where nothing comes. -/
theorem meet_no {d : Nat} {ta tb : Tm} {w w' : World} {e : Ending} (h : MeetQ d ta tb w e w') (hno : ¬ ∃ τ, SolE [(ta, tb)] τ) : e = .returned (.tuple #[tv 0 ⟨#[]⟩ ⟨#[]⟩ 0 (.slice none 0 0), .int .i64 15]) ∧ Below w.heap.size w w' := by
  obtain ⟨hb, ⟨he, _⟩ | ⟨σ, u, hB, _⟩⟩ := h
  · exact ⟨he, hb⟩
  · exact absurd ⟨σ, hB.sol⟩ hno
theorem rmeet_no {d : Nat} {ta tb : Tm} {w w' : World} {e : Ending} (h : RMeetQ d ta tb w e w') (hno : ¬ ∃ τ, SolE [(ta, tb)] τ) : e = .returned (.tuple #[tv 0 ⟨#[]⟩ ⟨#[]⟩ 0 (.slice none 0 0), .int .i64 15]) ∧ Below w.heap.size w w' := by
  obtain ⟨hb, ⟨he, _⟩ | ⟨σ, u, hB, _⟩⟩ := h
  · exact ⟨he, hb⟩
  · exact absurd ⟨σ, hB.sol⟩ hno
/-- What the document's Meet answers where the type is known. -/
theorem rmeet_yes {d : Nat} {ta tb u : Tm} {w w' : World} {e : Ending} {σ : ByteArray → Tm} (h : RMeetQ d ta tb w e w') (hB : Best [(ta, tb)] (nmsE d [(ta, tb)]) σ) (hu : So σ ta u) (hn : ∀ n, Oc n ta → n ∈ nmsE d [(ta, tb)]) (hc : cnt2 u ≤ 1000) :
    ∃ k p m I q l cc, e = .returned (.tuple #[tv k p m I (.slice q l cc), .int .i64 0]) ∧ IsT w' 1002 (tv k p m I (.slice q l cc)) u ∧ Below w.heap.size w w' := by
  obtain ⟨hb, ⟨_, hno⟩ | ⟨τ, v, hB', hv, h⟩⟩ := h
  · exact absurd ⟨σ, hB.sol⟩ hno
  · have e1 : v = u := (hv.cong fun s hs => best_one hB' hB s (hn s hs)).det hu
    subst e1
    rcases h with ⟨k, p, m, I, q, l, cc, he, _, hi⟩ | ⟨_, hbig⟩
    · exact ⟨k, p, m, I, q, l, cc, he, hi, hb⟩
    · omega
theorem rmeet_big {d : Nat} {ta tb u : Tm} {w w' : World} {e : Ending} {σ : ByteArray → Tm} (h : RMeetQ d ta tb w e w') (hB : Best [(ta, tb)] (nmsE d [(ta, tb)]) σ) (hu : So σ ta u) (hn : ∀ n, Oc n ta → n ∈ nmsE d [(ta, tb)]) (hc : 1000 < cnt2 u) :
    e = .returned (.tuple #[tv 0 ⟨#[]⟩ ⟨#[]⟩ 0 (.slice none 0 0), .int .i64 9]) ∧ Below w.heap.size w w' := by
  obtain ⟨hb, ⟨_, hno⟩ | ⟨τ, v, hB', hv, h⟩⟩ := h
  · exact absurd ⟨σ, hB.sol⟩ hno
  · have e1 : v = u := (hv.cong fun s hs => best_one hB' hB s (hn s hs)).det hu
    subst e1
    rcases h with ⟨k, p, m, I, q, l, cc, he, hs, hi⟩ | ⟨he, hbig⟩
    · omega
    · exact ⟨he, hb⟩
/-- What Meet answers the other way round. -/
theorem meet_swap {d : Nat} {ta tb u : Tm} {w w' : World} {e : Ending} {σ : ByteArray → Tm} (h : MeetQ d tb ta w e w') (hB : Best [(ta, tb)] (nmsE d [(ta, tb)]) σ) (hu : So σ ta u) (ha : Tyy ta) (hb : Tyy tb) (da : Dp d ta) (db : Dp d tb) (hl : tot d [(tb, ta)] ≤ 60) (hc : cnt2 u ≤ 1000) :
    ∃ z k p m I q l cc, (Ab u z ∧ Ab z u) ∧ cnt2 z ≤ 1000 ∧ MOk z ∧ e = .returned (.tuple #[tv k p m I (.slice q l cc), .int .i64 0]) ∧ IsT w' 1002 (tv k p m I (.slice q l cc)) z ∧ Below w.heap.size w w' := by
  obtain ⟨hbl, ⟨_, hno⟩ | ⟨τ, z, hB', hz, h⟩⟩ := h
  · exact absurd ⟨σ, sole_swap hB.sol⟩ hno
  · have o1 := oc_nms (d := d) (a := ta) (b := tb) da db
    have o2 := oc_nms (d := d) (a := tb) (b := ta) db da
    obtain ⟨h1, h2⟩ := meet_two hB hB' ha o1.1 o2.2 hu hz
    rcases h with ⟨k, I, p, m, q, l, cc, he, hcz, hi⟩ | ⟨_, hbig⟩
    · exact ⟨z, k, p, m, I, q, l, cc, h1, hcz, best_mok (d := d) hB' (nms_few hl) hb o2.1 hz, he, hi 1002 (by omega), hbl⟩
    · omega
theorem meet_swap_big {d : Nat} {ta tb u : Tm} {w w' : World} {e : Ending} {σ : ByteArray → Tm} (h : MeetQ d tb ta w e w') (hB : Best [(ta, tb)] (nmsE d [(ta, tb)]) σ) (hu : So σ ta u) (ha : Tyy ta) (da : Dp d ta) (db : Dp d tb) (hc : 1000 < cnt2 u) :
    e = .returned (.tuple #[tv 0 ⟨#[]⟩ ⟨#[]⟩ 0 (.slice none 0 0), .int .i64 9]) ∧ Below w.heap.size w w' := by
  obtain ⟨hbl, ⟨_, hno⟩ | ⟨τ, z, hB', hz, h⟩⟩ := h
  · exact absurd ⟨σ, sole_swap hB.sol⟩ hno
  · have o1 := oc_nms (d := d) (a := ta) (b := tb) da db
    have o2 := oc_nms (d := d) (a := tb) (b := ta) db da
    obtain ⟨h1, h2⟩ := meet_two hB hB' ha o1.1 o2.2 hu hz
    rcases h with ⟨k, I, p, m, q, l, cc, he, hcz, hi⟩ | ⟨he, hbig⟩
    · omega
    · exact ⟨he, hbl⟩
theorem canon_same {u z : Tm} {d : Nat} (hu : MOk u) (hz : MOk z) (du : Dp d u) (dz : Dp d z) (h : Ab u z ∧ Ab z u) : canonT d u = canonT d z :=
  (canon_iff (hu.tyy.ty du) (hz.tyy.ty dz) (Nat.le_trans (hu.few d) (by decide)) (Nat.le_trans (hz.few d) (by decide))).2 h
end Go.Proofs.YtncebhddcokkoaaDoor
/- UnifyMeets: its walk. -/
namespace Go.Proofs.YtncebhddcokkoaaDoor
open Go.RowKit
set_option linter.unusedSimpArgs false
set_option linter.unusedVariables false
set_option maxRecDepth 100000 in
set_option maxHeartbeats 1000000 in
theorem meets13_walk (d : Nat) (va vb : Value) (ta tb : Tm) (w : World) (hi1 : IsT w d va ta) (hi2 : IsT w d vb tb) :
    Calls Tryd.prog 6 #[va, vb] w fun e w' => e = .returned (.bool true) ∧ Below w.heap.size w w' := by
  obtain ⟨k1, p1, n1, N1, q1, l1, c1, rfl⟩ := hi1.shp
  obtain ⟨k2, p2, n2, N2, q2, l2, c2, rfl⟩ := hi2.shp
  have hb2 := below2 w (.cells #[.int .i64 k1, .string p1, .string n1, .int .i64 N1, .slice q1 l1 c1] 36) (.cells #[.int .i64 k2, .string p2, .string n2, .int .i64 N2, .slice q2 l2 c2] 36)
  have hn1 := hb_alloc (hb_new w (.cells #[.int .i64 k1, .string p1, .string n1, .int .i64 N1, .slice q1 l1 c1] 36)) (.cells #[.int .i64 k2, .string p2, .string n2, .int .i64 N2, .slice q2 l2 c2] 36)
  have hn2 := hb_new (w.alloc (.cells #[.int .i64 k1, .string p1, .string n1, .int .i64 N1, .slice q1 l1 c1] 36)) (.cells #[.int .i64 k2, .string p2, .string n2, .int .i64 N2, .slice q2 l2 c2] 36)
  simp only [World.size_alloc] at hn2
  have HB2 := Lib.hid hb2
  have HN1 := Lib.hid hn1
  have HN2 := Lib.hid hn2
  have HDA := Lib.hid hi1.dp
  have HDB := Lib.hid hi2.dp
  have HT1 := Lib.hid (hi1.below hb2)
  have HT2 := Lib.hid (hi2.below hb2)
  clear hb2 hn1 hn2 hi1 hi2
  go_enter Tryd.func6, Tryd.ntmps6
  go_upto_region 1 with (fail)
  generalize (w.alloc (.cells #[.int .i64 k1, .string p1, .string n1, .int .i64 N1, .slice q1 l1 c1] 36)).alloc (.cells #[.int .i64 k2, .string p2, .string n2, .int .i64 N2, .slice q2 l2 c2] 36) = W2 at *
  obtain ⟨x0, x1, x2, x3, x4⟩ := box_cells HN1.out
  obtain ⟨y0, y1, y2, y3, y4⟩ := box_cells HN2.out
  have hba := below_alloc W2 (.cells #[.int .i64 k1, .string p1, .string n1, .int .i64 N1, .slice q1 l1 c1, .int .i64 k2, .string p2, .string n2, .int .i64 N2, .slice q2 l2 c2] 36)
  have hnw := hb_new W2 (.cells #[.int .i64 k1, .string p1, .string n1, .int .i64 N1, .slice q1 l1 c1, .int .i64 k2, .string p2, .string n2, .int .i64 N2, .slice q2 l2 c2] 36)
  have HF := Lib.hid (fewA_any d _ [ta, tb] _ (KidsT.two hnw (HT1.out.below hba) (HT2.out.below hba)) (by simp))
  have HBA := Lib.hid hba
  clear hba hnw HN1 HN2
  go_upto_region 3 with (first
    | (go_at_call 19; (with_reducible refine HF.out.mono ?_); rintro e w3 ⟨r, rfl, hr, hb3⟩; have HRR := Lib.hid hr; have HBX := Lib.hid (HBA.out.trans (hb3.mono HBA.out.size)); have HBR := Lib.hid (HB2.out.trans (HBX.out.mono HB2.out.size)); clear hr hb3 HBA; cases r)
    | (go_at_call 11; (with_reducible refine (alive13_any _).mono ?_); rintro e w9 ⟨rfl, hb9⟩; have HBR := Lib.hid (HBR.out.trans (hb9.mono HBR.out.size)); clear hb9))
  · go_ret
    exact ⟨rfl, HBR.out⟩
  obtain ⟨hty, htot⟩ := HRR.out (by first | rfl | trivial)
  have HTA := Lib.hid (hty ta (by simp)).1
  have HTB := Lib.hid (hty tb (by simp)).1
  have ht2 : tszN d ta + tszN d tb ≤ 60 := by simpa using htot
  have HTOT : RowKit.Hid (tot d [(ta, tb)] ≤ 60) := Lib.hid (by rw [tot_one]; exact ht2)
  have HTOS : RowKit.Hid (tot d [(tb, ta)] ≤ 60) := Lib.hid (by rw [tot_one]; show tszN d tb + tszN d ta ≤ 60; omega)
  have HOC := Lib.hid (oc_nms (d := d) (a := ta) (b := tb) HDA.out HDB.out)
  clear hty htot ht2 HRR HF
  have x0 := keep_cell HBX.out x0
  have x1 := keep_cell HBX.out x1
  have x2 := keep_cell HBX.out x2
  have x3 := keep_cell HBX.out x3
  have x4 := keep_cell HBX.out x4
  have y0 := keep_cell HBX.out y0
  have y1 := keep_cell HBX.out y1
  have y2 := keep_cell HBX.out y2
  have y3 := keep_cell HBX.out y3
  have y4 := keep_cell HBX.out y4
  have HT1 := Lib.hid (HT1.out.below HBX.out)
  have HT2 := Lib.hid (HT2.out.below HBX.out)
  have HR := Lib.hid (meet_any _ d _ _ ta tb HT1.out HT2.out ⟨HTA.out, HTB.out⟩ (Nat.le_trans HTOT.out (by decide)))
  clear HBX
  go_upto_region 4 with (go_at_call 20; (with_reducible refine HR.out.mono ?_); rintro e w5 ⟨hb5, ⟨rfl, hno⟩ | ⟨σ, u, hB, hu, ⟨k6, I6, p6, m6, q6, l6, c6, rfl, hcn, hit⟩ | ⟨rfl, hbig⟩⟩⟩)
  · skip
    have HNO := Lib.hid hno
    clear hno
    have HBX := Lib.hid (hb5.trans ((below_alloc w5 (.cells #[.int .i64 0, .string ⟨#[]⟩, .string ⟨#[]⟩, .int .i64 0, .slice none 0 0] 36)).mono hb5.size))
    have hnm := hb_new w5 (.cells #[.int .i64 0, .string ⟨#[]⟩, .string ⟨#[]⟩, .int .i64 0, .slice none 0 0] 36)
    have HBA := Lib.hid (below_alloc w5 (.cells #[.int .i64 0, .string ⟨#[]⟩, .string ⟨#[]⟩, .int .i64 0, .slice none 0 0] 36))
    obtain ⟨u0, u1, u2, u3, u4⟩ := box_cells hnm
    clear hb5 hnm HBA
    generalize w5.alloc (.cells #[.int .i64 0, .string ⟨#[]⟩, .string ⟨#[]⟩, .int .i64 0, .slice none 0 0] 36) = X1 at *
    generalize w5.heap.size = M1 at *
    have x0 := keep_cell HBX.out x0
    have x1 := keep_cell HBX.out x1
    have x2 := keep_cell HBX.out x2
    have x3 := keep_cell HBX.out x3
    have x4 := keep_cell HBX.out x4
    have y0 := keep_cell HBX.out y0
    have y1 := keep_cell HBX.out y1
    have y2 := keep_cell HBX.out y2
    have y3 := keep_cell HBX.out y3
    have y4 := keep_cell HBX.out y4
    have HT1 := Lib.hid (HT1.out.below HBX.out)
    have HT2 := Lib.hid (HT2.out.below HBX.out)
    have HBR := Lib.hid (HBR.out.trans (HBX.out.mono HBR.out.size))
    have HR := Lib.hid (rmeet_any X1 d _ _ ta tb HT1.out HT2.out ⟨HTA.out, HTB.out⟩ (Nat.le_trans HTOT.out (by decide)))
    clear HBX
    go_upto_region 5 with (go_at_call 21; (with_reducible refine HR.out.mono ?_); rintro e w6 hq; obtain ⟨rfl, hb5⟩ := rmeet_no hq HNO.out)
    have HBX := Lib.hid (hb5.trans ((below_alloc w6 (.cells #[.int .i64 0, .string ⟨#[]⟩, .string ⟨#[]⟩, .int .i64 0, .slice none 0 0] 36)).mono hb5.size))
    have hnm := hb_new w6 (.cells #[.int .i64 0, .string ⟨#[]⟩, .string ⟨#[]⟩, .int .i64 0, .slice none 0 0] 36)
    have HBA := Lib.hid (below_alloc w6 (.cells #[.int .i64 0, .string ⟨#[]⟩, .string ⟨#[]⟩, .int .i64 0, .slice none 0 0] 36))
    obtain ⟨v0, v1, v2, v3, v4⟩ := box_cells hnm
    clear hb5 hnm HBA
    generalize w6.alloc (.cells #[.int .i64 0, .string ⟨#[]⟩, .string ⟨#[]⟩, .int .i64 0, .slice none 0 0] 36) = X2 at *
    generalize w6.heap.size = M2 at *
    have x0 := keep_cell HBX.out x0
    have x1 := keep_cell HBX.out x1
    have x2 := keep_cell HBX.out x2
    have x3 := keep_cell HBX.out x3
    have x4 := keep_cell HBX.out x4
    have y0 := keep_cell HBX.out y0
    have y1 := keep_cell HBX.out y1
    have y2 := keep_cell HBX.out y2
    have y3 := keep_cell HBX.out y3
    have y4 := keep_cell HBX.out y4
    have u0 := keep_cell HBX.out u0
    have u1 := keep_cell HBX.out u1
    have u2 := keep_cell HBX.out u2
    have u3 := keep_cell HBX.out u3
    have u4 := keep_cell HBX.out u4
    have HT1 := Lib.hid (HT1.out.below HBX.out)
    have HT2 := Lib.hid (HT2.out.below HBX.out)
    have HBR := Lib.hid (HBR.out.trans (HBX.out.mono HBR.out.size))
    have HR := Lib.hid (meet_any X2 d _ _ tb ta HT2.out HT1.out ⟨HTB.out, HTA.out⟩ (Nat.le_trans HTOS.out (by decide)))
    clear HBX
    go_upto_region 6 with (go_at_call 20; (with_reducible refine HR.out.mono ?_); rintro e w7 hq; obtain ⟨rfl, hb5⟩ := meet_no hq (fun ⟨τ, h⟩ => HNO.out ⟨τ, sole_swap h⟩))
    have HBX := Lib.hid (hb5.trans ((below_alloc w7 (.cells #[.int .i64 0, .string ⟨#[]⟩, .string ⟨#[]⟩, .int .i64 0, .slice none 0 0] 36)).mono hb5.size))
    have hnm := hb_new w7 (.cells #[.int .i64 0, .string ⟨#[]⟩, .string ⟨#[]⟩, .int .i64 0, .slice none 0 0] 36)
    have HBA := Lib.hid (below_alloc w7 (.cells #[.int .i64 0, .string ⟨#[]⟩, .string ⟨#[]⟩, .int .i64 0, .slice none 0 0] 36))
    obtain ⟨s0, s1, s2, s3, s4⟩ := box_cells hnm
    clear hb5 hnm HBA
    generalize w7.alloc (.cells #[.int .i64 0, .string ⟨#[]⟩, .string ⟨#[]⟩, .int .i64 0, .slice none 0 0] 36) = X3 at *
    generalize w7.heap.size = M3 at *
    have x0 := keep_cell HBX.out x0
    have x1 := keep_cell HBX.out x1
    have x2 := keep_cell HBX.out x2
    have x3 := keep_cell HBX.out x3
    have x4 := keep_cell HBX.out x4
    have y0 := keep_cell HBX.out y0
    have y1 := keep_cell HBX.out y1
    have y2 := keep_cell HBX.out y2
    have y3 := keep_cell HBX.out y3
    have y4 := keep_cell HBX.out y4
    have u0 := keep_cell HBX.out u0
    have u1 := keep_cell HBX.out u1
    have u2 := keep_cell HBX.out u2
    have u3 := keep_cell HBX.out u3
    have u4 := keep_cell HBX.out u4
    have v0 := keep_cell HBX.out v0
    have v1 := keep_cell HBX.out v1
    have v2 := keep_cell HBX.out v2
    have v3 := keep_cell HBX.out v3
    have v4 := keep_cell HBX.out v4
    have HT1 := Lib.hid (HT1.out.below HBX.out)
    have HT2 := Lib.hid (HT2.out.below HBX.out)
    have HBR := Lib.hid (HBR.out.trans (HBX.out.mono HBR.out.size))
    clear HBX HR
    go_wp2_with (first
      | (go_at_call 17; (with_reducible refine (refSame_any 1 _ _ (.mk 0 ⟨#[]⟩ ⟨#[]⟩ 0 []) (.mk 0 ⟨#[]⟩ ⟨#[]⟩ 0 []) _ (leaf_is _ 0 0 ⟨#[]⟩ (Nat.zero_le _)) (leaf_is _ 0 0 ⟨#[]⟩ (Nat.zero_le _))).mono ?_); rintro e w8 ⟨he, hb8⟩; rw [same_self] at he; subst he; have HBR := Lib.hid (HBR.out.trans (hb8.mono HBR.out.size)); clear hb8)
      | (go_at_call 15; (with_reducible refine (no13_any _ _).mono ?_); rintro e w9 ⟨rfl, hb9⟩; have HBR := Lib.hid (HBR.out.trans (hb9.mono HBR.out.size)); clear hb9)
      | (go_at_call 11; (with_reducible refine (alive13_any _).mono ?_); rintro e w9 ⟨rfl, hb9⟩; have HBR := Lib.hid (HBR.out.trans (hb9.mono HBR.out.size)); clear hb9))
    go_ret
    exact ⟨rfl, HBR.out⟩
  · skip
    have HB := Lib.hid hB
    have HU := Lib.hid hu
    have HCN := Lib.hid hcn
    have hit9 := hit 1002 (by omega)
    have HX := Lib.hid hit9
    clear hB hu hcn hit hit9
    have HBX := Lib.hid (hb5.trans ((below_alloc w5 (.cells #[.int .i64 k6, .string p6, .string m6, .int .i64 I6, .slice q6 l6 c6] 36)).mono hb5.size))
    have hnm := hb_new w5 (.cells #[.int .i64 k6, .string p6, .string m6, .int .i64 I6, .slice q6 l6 c6] 36)
    have HBA := Lib.hid (below_alloc w5 (.cells #[.int .i64 k6, .string p6, .string m6, .int .i64 I6, .slice q6 l6 c6] 36))
    obtain ⟨u0, u1, u2, u3, u4⟩ := box_cells hnm
    have HX := Lib.hid (HX.out.below HBA.out)
    clear hb5 hnm HBA
    generalize w5.alloc (.cells #[.int .i64 k6, .string p6, .string m6, .int .i64 I6, .slice q6 l6 c6] 36) = X1 at *
    generalize w5.heap.size = M1 at *
    have x0 := keep_cell HBX.out x0
    have x1 := keep_cell HBX.out x1
    have x2 := keep_cell HBX.out x2
    have x3 := keep_cell HBX.out x3
    have x4 := keep_cell HBX.out x4
    have y0 := keep_cell HBX.out y0
    have y1 := keep_cell HBX.out y1
    have y2 := keep_cell HBX.out y2
    have y3 := keep_cell HBX.out y3
    have y4 := keep_cell HBX.out y4
    have HT1 := Lib.hid (HT1.out.below HBX.out)
    have HT2 := Lib.hid (HT2.out.below HBX.out)
    have HBR := Lib.hid (HBR.out.trans (HBX.out.mono HBR.out.size))
    have HR := Lib.hid (rmeet_any X1 d _ _ ta tb HT1.out HT2.out ⟨HTA.out, HTB.out⟩ (Nat.le_trans HTOT.out (by decide)))
    clear HBX
    go_upto_region 5 with (go_at_call 21; (with_reducible refine HR.out.mono ?_); rintro e w6 hq; obtain ⟨k7, p7, m7, I7, q7, l7, c7, rfl, hi7, hb5⟩ := rmeet_yes hq HB.out HU.out HOC.out.1 HCN.out; have HY := Lib.hid hi7; clear hi7)
    have HBX := Lib.hid (hb5.trans ((below_alloc w6 (.cells #[.int .i64 k7, .string p7, .string m7, .int .i64 I7, .slice q7 l7 c7] 36)).mono hb5.size))
    have hnm := hb_new w6 (.cells #[.int .i64 k7, .string p7, .string m7, .int .i64 I7, .slice q7 l7 c7] 36)
    have HBA := Lib.hid (below_alloc w6 (.cells #[.int .i64 k7, .string p7, .string m7, .int .i64 I7, .slice q7 l7 c7] 36))
    obtain ⟨v0, v1, v2, v3, v4⟩ := box_cells hnm
    have HY := Lib.hid (HY.out.below HBA.out)
    clear hb5 hnm HBA
    generalize w6.alloc (.cells #[.int .i64 k7, .string p7, .string m7, .int .i64 I7, .slice q7 l7 c7] 36) = X2 at *
    generalize w6.heap.size = M2 at *
    have x0 := keep_cell HBX.out x0
    have x1 := keep_cell HBX.out x1
    have x2 := keep_cell HBX.out x2
    have x3 := keep_cell HBX.out x3
    have x4 := keep_cell HBX.out x4
    have y0 := keep_cell HBX.out y0
    have y1 := keep_cell HBX.out y1
    have y2 := keep_cell HBX.out y2
    have y3 := keep_cell HBX.out y3
    have y4 := keep_cell HBX.out y4
    have u0 := keep_cell HBX.out u0
    have u1 := keep_cell HBX.out u1
    have u2 := keep_cell HBX.out u2
    have u3 := keep_cell HBX.out u3
    have u4 := keep_cell HBX.out u4
    have HT1 := Lib.hid (HT1.out.below HBX.out)
    have HT2 := Lib.hid (HT2.out.below HBX.out)
    have HBR := Lib.hid (HBR.out.trans (HBX.out.mono HBR.out.size))
    have HX := Lib.hid (HX.out.below HBX.out)
    have HR := Lib.hid (meet_any X2 d _ _ tb ta HT2.out HT1.out ⟨HTB.out, HTA.out⟩ (Nat.le_trans HTOS.out (by decide)))
    clear HBX
    go_upto_region 6 with (go_at_call 20; (with_reducible refine HR.out.mono ?_); rintro e w7 hq; obtain ⟨z, k8, p8, m8, I8, q8, l8, c8, hab, hcz, hmz, rfl, hi8, hb5⟩ := meet_swap hq HB.out HU.out HTA.out.tyy HTB.out.tyy HDA.out HDB.out HTOS.out HCN.out; have HZ := Lib.hid hi8; have HAB := Lib.hid hab; have HCZ := Lib.hid hcz; have HMZ := Lib.hid hmz; clear hi8 hab hcz hmz)
    have HBX := Lib.hid (hb5.trans ((below_alloc w7 (.cells #[.int .i64 k8, .string p8, .string m8, .int .i64 I8, .slice q8 l8 c8] 36)).mono hb5.size))
    have hnm := hb_new w7 (.cells #[.int .i64 k8, .string p8, .string m8, .int .i64 I8, .slice q8 l8 c8] 36)
    have HBA := Lib.hid (below_alloc w7 (.cells #[.int .i64 k8, .string p8, .string m8, .int .i64 I8, .slice q8 l8 c8] 36))
    obtain ⟨s0, s1, s2, s3, s4⟩ := box_cells hnm
    have HZ := Lib.hid (HZ.out.below HBA.out)
    clear hb5 hnm HBA
    generalize w7.alloc (.cells #[.int .i64 k8, .string p8, .string m8, .int .i64 I8, .slice q8 l8 c8] 36) = X3 at *
    generalize w7.heap.size = M3 at *
    have x0 := keep_cell HBX.out x0
    have x1 := keep_cell HBX.out x1
    have x2 := keep_cell HBX.out x2
    have x3 := keep_cell HBX.out x3
    have x4 := keep_cell HBX.out x4
    have y0 := keep_cell HBX.out y0
    have y1 := keep_cell HBX.out y1
    have y2 := keep_cell HBX.out y2
    have y3 := keep_cell HBX.out y3
    have y4 := keep_cell HBX.out y4
    have u0 := keep_cell HBX.out u0
    have u1 := keep_cell HBX.out u1
    have u2 := keep_cell HBX.out u2
    have u3 := keep_cell HBX.out u3
    have u4 := keep_cell HBX.out u4
    have v0 := keep_cell HBX.out v0
    have v1 := keep_cell HBX.out v1
    have v2 := keep_cell HBX.out v2
    have v3 := keep_cell HBX.out v3
    have v4 := keep_cell HBX.out v4
    have HT1 := Lib.hid (HT1.out.below HBX.out)
    have HT2 := Lib.hid (HT2.out.below HBX.out)
    have HBR := Lib.hid (HBR.out.trans (HBX.out.mono HBR.out.size))
    have HX := Lib.hid (HX.out.below HBX.out)
    have HY := Lib.hid (HY.out.below HBX.out)
    clear HBX HR
    have HMU := Lib.hid (best_mok (d := d) HB.out (nms_few HTOT.out) HTA.out.tyy HOC.out.1 HU.out)
    have HCE := Lib.hid (canon_same HMU.out HMZ.out HX.out.dp HZ.out.dp HAB.out)
    have HSMU := Lib.hid (sm_cnt 1002 u (by have := HCN.out; omega))
    have HSMZ := Lib.hid (sm_cnt 1002 z (by have := HCZ.out; omega))
    have HZU : RowKit.Hid (tszN 1002 u ≤ 30000) := Lib.hid (by rw [tsz_cnt _ _ HX.out.dp]; have := HCN.out; omega)
    have HZZ : RowKit.Hid (tszN 1002 z ≤ 30000) := Lib.hid (by rw [tsz_cnt _ _ HZ.out.dp]; have := HCZ.out; omega)
    have HBY := Lib.hid (Below.refl X3.heap.size X3)
    go_upto_region 10 with (first
      | (go_at_call 17; (with_reducible refine (refSame_any 1002 _ _ u u _ HX.out HY.out).mono ?_); rintro e w8 ⟨he, hb8⟩; rw [same_self] at he; subst he; have HBY := Lib.hid (HBY.out.trans (hb8.mono HBY.out.size)); clear hb8)
      | (go_at_call 15; (with_reducible refine (no13_any _ _).mono ?_); rintro e w9 ⟨rfl, hb9⟩; have HBY := Lib.hid (HBY.out.trans (hb9.mono HBY.out.size)); clear hb9))

    have u0 := keep_cell HBY.out u0
    have u1 := keep_cell HBY.out u1
    have u2 := keep_cell HBY.out u2
    have u3 := keep_cell HBY.out u3
    have u4 := keep_cell HBY.out u4
    have s0 := keep_cell HBY.out s0
    have s1 := keep_cell HBY.out s1
    have s2 := keep_cell HBY.out s2
    have s3 := keep_cell HBY.out s3
    have s4 := keep_cell HBY.out s4
    have HX := Lib.hid (HX.out.below HBY.out)
    have HZ := Lib.hid (HZ.out.below HBY.out)
    have HBR := Lib.hid (HBR.out.trans (HBY.out.mono HBR.out.size))
    clear HBY x0 x1 x2 x3 x4 y0 y1 y2 y3 y4 v0 v1 v2 v3 v4
    refine wp_region_held_drew (S := (fun w' => RowKit.Hid (Below w9.heap.size w9 w') ∧ w'.cell? ⟨M1, 0, none⟩ = some (.int .i64 k6) ∧ w'.cell? ⟨M1, 1, none⟩ = some (.string p6) ∧ w'.cell? ⟨M1, 2, none⟩ = some (.string m6) ∧ w'.cell? ⟨M1, 3, none⟩ = some (.int .i64 I6) ∧ w'.cell? ⟨M1, 4, none⟩ = some (.slice q6 l6 c6) ∧ w'.cell? ⟨M3, 0, none⟩ = some (.int .i64 k8) ∧ w'.cell? ⟨M3, 1, none⟩ = some (.string p8) ∧ w'.cell? ⟨M3, 2, none⟩ = some (.string m8) ∧ w'.cell? ⟨M3, 3, none⟩ = some (.int .i64 I8) ∧ w'.cell? ⟨M3, 4, none⟩ = some (.slice q8 l8 c8))) (by kernel_rfl) (by exact ⟨Lib.hid (below_drewN (Below.refl _ _) 1), u0, u1, u2, u3, u4, s0, s1, s2, s3, s4⟩) (fun hHeld => ?_)
    refine wpAnyH_take (i := 0) (oi := ⟨some 54, _, _, _, _, _⟩) (v := ?_) rfl (by kernel_rfl) (by kernel_rfl) (by kernel_rfl) (fun _ _ _ h => h) (Or.inl ⟨by rfl, ?_⟩) (by assumption) ?_
    rotate_left
    focus (intro w hSw; (try dsimp only at hSw); go_simp; first | done | with_reducible rfl)
    try simp only [Act.put, List.setIfInBounds_toArray, List.set_cons_zero, List.set_cons_succ]
    refine wpAnyH_take (i := 2) (oi := ⟨some 56, _, _, _, _, _⟩) (v := ?_) rfl (by kernel_rfl) (by kernel_rfl) (by kernel_rfl) (fun _ _ _ h => h) (Or.inl ⟨by rfl, ?_⟩) (by assumption) ?_
    rotate_left
    focus (intro w hSw; (try dsimp only at hSw); go_simp; first | done | with_reducible rfl)
    try simp only [Act.put, List.setIfInBounds_toArray, List.set_cons_zero, List.set_cons_succ]
    refine wpAnyH_ready (rs := [1]) (by kernel_rfl) (by simp) ?_
    refine AllReadyH.cons (o := ⟨some 55, _, _, _, _, _⟩) rfl (fun K hK => ?_) AllReadyH.nil
    go_simp
    have hc := rcanon_any _ 1002 _ u (HX.out.below hHeld.1.out) HSMU.out HZU.out (HMU.out.few 1002); (with_reducible refine hc.mono ?_); rintro e v1 ⟨r1, rfl, hi1, hb⟩; have HR1 := Lib.hid hi1; clear hi1 hc
    go_wp2_with fail
    refine hK.out _ _ (by exact ⟨Lib.hid (hHeld.1.out.trans (hb.mono hHeld.1.out.size)), keep_cell hb hHeld.2.1, keep_cell hb hHeld.2.2.1, keep_cell hb hHeld.2.2.2.1, keep_cell hb hHeld.2.2.2.2.1, keep_cell hb hHeld.2.2.2.2.2.1, keep_cell hb hHeld.2.2.2.2.2.2.1, keep_cell hb hHeld.2.2.2.2.2.2.2.1, keep_cell hb hHeld.2.2.2.2.2.2.2.2.1, keep_cell hb hHeld.2.2.2.2.2.2.2.2.2.1, keep_cell hb hHeld.2.2.2.2.2.2.2.2.2.2⟩) (fun hNew => ?_)
    clear hK K
    clear hHeld hb; have hHeld := hNew; clear hNew
    try simp only [Act.put, List.setIfInBounds_toArray, List.set_cons_zero, List.set_cons_succ]
    refine wpAnyH_ready (rs := [3]) (by kernel_rfl) (by simp) ?_
    refine AllReadyH.cons (o := ⟨some 57, _, _, _, _, _⟩) rfl (fun K hK => ?_) AllReadyH.nil
    go_simp
    have hc := rcanon_any _ 1002 _ z (HZ.out.below hHeld.1.out) HSMZ.out HZZ.out (HMZ.out.few 1002); (with_reducible refine hc.mono ?_); rintro e v2 ⟨r2, rfl, hi2, hb⟩; have HR1 := Lib.hid (HR1.out.below hb); have HR2 := Lib.hid hi2; clear hi2 hc
    go_wp2_with fail
    refine hK.out _ _ (by exact ⟨Lib.hid (hHeld.1.out.trans (hb.mono hHeld.1.out.size)), keep_cell hb hHeld.2.1, keep_cell hb hHeld.2.2.1, keep_cell hb hHeld.2.2.2.1, keep_cell hb hHeld.2.2.2.2.1, keep_cell hb hHeld.2.2.2.2.2.1, keep_cell hb hHeld.2.2.2.2.2.2.1, keep_cell hb hHeld.2.2.2.2.2.2.2.1, keep_cell hb hHeld.2.2.2.2.2.2.2.2.1, keep_cell hb hHeld.2.2.2.2.2.2.2.2.2.1, keep_cell hb hHeld.2.2.2.2.2.2.2.2.2.2⟩) (fun hNew => ?_)
    clear hK K
    clear hHeld hb; have hHeld := hNew; clear hNew
    try simp only [Act.put, List.setIfInBounds_toArray, List.set_cons_zero, List.set_cons_succ]
    refine wpAnyH_ready (rs := [4]) (by kernel_rfl) (by simp) ?_
    refine AllReadyH.cons (o := ⟨some 58, _, _, _, _, _⟩) rfl (fun K hK => ?_) AllReadyH.nil
    go_simp
    have hc := refSame_any (1 + 1002) _ _ _ _ _ HR1.out HR2.out; (with_reducible refine hc.mono ?_); rintro e v3 ⟨he, hb⟩; rw [HCE.out, same_self] at he; subst he; clear hc
    go_wp2_with fail
    refine hK.out _ _ (by exact ⟨Lib.hid (hHeld.1.out.trans (hb.mono hHeld.1.out.size)), keep_cell hb hHeld.2.1, keep_cell hb hHeld.2.2.1, keep_cell hb hHeld.2.2.2.1, keep_cell hb hHeld.2.2.2.2.1, keep_cell hb hHeld.2.2.2.2.2.1, keep_cell hb hHeld.2.2.2.2.2.2.1, keep_cell hb hHeld.2.2.2.2.2.2.2.1, keep_cell hb hHeld.2.2.2.2.2.2.2.2.1, keep_cell hb hHeld.2.2.2.2.2.2.2.2.2.1, keep_cell hb hHeld.2.2.2.2.2.2.2.2.2.2⟩) (fun hNew => ?_)
    clear hK K
    clear hHeld hb; have hHeld := hNew; clear hNew
    try simp only [Act.put, List.setIfInBounds_toArray, List.set_cons_zero, List.set_cons_succ]
    refine wpAnyH_take (i := 5) (oi := ⟨some 59, _, _, _, _, _⟩) (v := ?_) rfl (by kernel_rfl) (by kernel_rfl) (by kernel_rfl) (fun _ _ _ h => h) (Or.inl ⟨by rfl, ?_⟩) (by assumption) ?_
    rotate_left
    focus (intro w hSw; (try dsimp only at hSw); go_simp; first | done | with_reducible rfl)
    try simp only [Act.put, List.setIfInBounds_toArray, List.set_cons_zero, List.set_cons_succ]
    refine wpAnyH_ready (rs := [6]) (by kernel_rfl) (by simp) ?_
    refine AllReadyH.cons (o := ⟨some 60, _, _, _, _, _⟩) rfl (fun K hK => ?_) AllReadyH.nil
    go_simp
    have hc := alive13_any; (with_reducible refine (hc _).mono ?_); rintro e v4 ⟨rfl, hb⟩; clear hc
    go_wp2_with fail
    refine hK.out _ _ (by exact ⟨Lib.hid (hHeld.1.out.trans (hb.mono hHeld.1.out.size)), keep_cell hb hHeld.2.1, keep_cell hb hHeld.2.2.1, keep_cell hb hHeld.2.2.2.1, keep_cell hb hHeld.2.2.2.2.1, keep_cell hb hHeld.2.2.2.2.2.1, keep_cell hb hHeld.2.2.2.2.2.2.1, keep_cell hb hHeld.2.2.2.2.2.2.2.1, keep_cell hb hHeld.2.2.2.2.2.2.2.2.1, keep_cell hb hHeld.2.2.2.2.2.2.2.2.2.1, keep_cell hb hHeld.2.2.2.2.2.2.2.2.2.2⟩) (fun hNew => ?_)
    clear hK K
    clear hHeld hb; have hHeld := hNew; clear hNew
    try simp only [Act.put, List.setIfInBounds_toArray, List.set_cons_zero, List.set_cons_succ]
    refine wpAnyH_take (i := 7) (oi := ⟨some 61, _, _, _, _, _⟩) (v := .bool true) rfl (by kernel_rfl) (by kernel_rfl) (by kernel_rfl) (fun _ _ _ h => h) (Or.inl ⟨by rfl, ?_⟩) (by assumption) ?_
    focus (intro w hSw; (try dsimp only at hSw); go_simp; first | done | simp)
    try simp only [Act.put, List.setIfInBounds_toArray, List.set_cons_zero, List.set_cons_succ]
    refine wpAnyH_take (i := 8) (oi := ⟨some 4, _, _, _, _, _⟩) (v := ?_) rfl (by kernel_rfl) (by kernel_rfl) (by kernel_rfl) (fun _ _ _ h => h) (Or.inl ⟨by rfl, ?_⟩) (by assumption) ?_
    rotate_left
    focus (intro w hSw; (try dsimp only at hSw); go_simp; first | done | with_reducible rfl)
    try simp only [Act.put, List.setIfInBounds_toArray, List.set_cons_zero, List.set_cons_succ]
    refine wpAnyH_done (by kernel_rfl) ?_ _
    skip
    have HBW := Lib.hid hHeld.1.out
    clear hHeld
    go_wp2
    go_ret
    exact ⟨rfl, HBR.out.trans (HBW.out.mono HBR.out.size)⟩
  · skip
    have HB := Lib.hid hB
    have HU := Lib.hid hu
    have HBIG := Lib.hid hbig
    clear hB hu hbig
    have HBX := Lib.hid (hb5.trans ((below_alloc w5 (.cells #[.int .i64 0, .string ⟨#[]⟩, .string ⟨#[]⟩, .int .i64 0, .slice none 0 0] 36)).mono hb5.size))
    have hnm := hb_new w5 (.cells #[.int .i64 0, .string ⟨#[]⟩, .string ⟨#[]⟩, .int .i64 0, .slice none 0 0] 36)
    have HBA := Lib.hid (below_alloc w5 (.cells #[.int .i64 0, .string ⟨#[]⟩, .string ⟨#[]⟩, .int .i64 0, .slice none 0 0] 36))
    obtain ⟨u0, u1, u2, u3, u4⟩ := box_cells hnm
    clear hb5 hnm HBA
    generalize w5.alloc (.cells #[.int .i64 0, .string ⟨#[]⟩, .string ⟨#[]⟩, .int .i64 0, .slice none 0 0] 36) = X1 at *
    generalize w5.heap.size = M1 at *
    have x0 := keep_cell HBX.out x0
    have x1 := keep_cell HBX.out x1
    have x2 := keep_cell HBX.out x2
    have x3 := keep_cell HBX.out x3
    have x4 := keep_cell HBX.out x4
    have y0 := keep_cell HBX.out y0
    have y1 := keep_cell HBX.out y1
    have y2 := keep_cell HBX.out y2
    have y3 := keep_cell HBX.out y3
    have y4 := keep_cell HBX.out y4
    have HT1 := Lib.hid (HT1.out.below HBX.out)
    have HT2 := Lib.hid (HT2.out.below HBX.out)
    have HBR := Lib.hid (HBR.out.trans (HBX.out.mono HBR.out.size))
    have HR := Lib.hid (rmeet_any X1 d _ _ ta tb HT1.out HT2.out ⟨HTA.out, HTB.out⟩ (Nat.le_trans HTOT.out (by decide)))
    clear HBX
    go_upto_region 5 with (go_at_call 21; (with_reducible refine HR.out.mono ?_); rintro e w6 hq; obtain ⟨rfl, hb5⟩ := rmeet_big hq HB.out HU.out HOC.out.1 HBIG.out)
    have HBX := Lib.hid (hb5.trans ((below_alloc w6 (.cells #[.int .i64 0, .string ⟨#[]⟩, .string ⟨#[]⟩, .int .i64 0, .slice none 0 0] 36)).mono hb5.size))
    have hnm := hb_new w6 (.cells #[.int .i64 0, .string ⟨#[]⟩, .string ⟨#[]⟩, .int .i64 0, .slice none 0 0] 36)
    have HBA := Lib.hid (below_alloc w6 (.cells #[.int .i64 0, .string ⟨#[]⟩, .string ⟨#[]⟩, .int .i64 0, .slice none 0 0] 36))
    obtain ⟨v0, v1, v2, v3, v4⟩ := box_cells hnm
    clear hb5 hnm HBA
    generalize w6.alloc (.cells #[.int .i64 0, .string ⟨#[]⟩, .string ⟨#[]⟩, .int .i64 0, .slice none 0 0] 36) = X2 at *
    generalize w6.heap.size = M2 at *
    have x0 := keep_cell HBX.out x0
    have x1 := keep_cell HBX.out x1
    have x2 := keep_cell HBX.out x2
    have x3 := keep_cell HBX.out x3
    have x4 := keep_cell HBX.out x4
    have y0 := keep_cell HBX.out y0
    have y1 := keep_cell HBX.out y1
    have y2 := keep_cell HBX.out y2
    have y3 := keep_cell HBX.out y3
    have y4 := keep_cell HBX.out y4
    have u0 := keep_cell HBX.out u0
    have u1 := keep_cell HBX.out u1
    have u2 := keep_cell HBX.out u2
    have u3 := keep_cell HBX.out u3
    have u4 := keep_cell HBX.out u4
    have HT1 := Lib.hid (HT1.out.below HBX.out)
    have HT2 := Lib.hid (HT2.out.below HBX.out)
    have HBR := Lib.hid (HBR.out.trans (HBX.out.mono HBR.out.size))
    have HR := Lib.hid (meet_any X2 d _ _ tb ta HT2.out HT1.out ⟨HTB.out, HTA.out⟩ (Nat.le_trans HTOS.out (by decide)))
    clear HBX
    go_upto_region 6 with (go_at_call 20; (with_reducible refine HR.out.mono ?_); rintro e w7 hq; obtain ⟨rfl, hb5⟩ := meet_swap_big hq HB.out HU.out HTA.out.tyy HDA.out HDB.out HBIG.out)
    have HBX := Lib.hid (hb5.trans ((below_alloc w7 (.cells #[.int .i64 0, .string ⟨#[]⟩, .string ⟨#[]⟩, .int .i64 0, .slice none 0 0] 36)).mono hb5.size))
    have hnm := hb_new w7 (.cells #[.int .i64 0, .string ⟨#[]⟩, .string ⟨#[]⟩, .int .i64 0, .slice none 0 0] 36)
    have HBA := Lib.hid (below_alloc w7 (.cells #[.int .i64 0, .string ⟨#[]⟩, .string ⟨#[]⟩, .int .i64 0, .slice none 0 0] 36))
    obtain ⟨s0, s1, s2, s3, s4⟩ := box_cells hnm
    clear hb5 hnm HBA
    generalize w7.alloc (.cells #[.int .i64 0, .string ⟨#[]⟩, .string ⟨#[]⟩, .int .i64 0, .slice none 0 0] 36) = X3 at *
    generalize w7.heap.size = M3 at *
    have x0 := keep_cell HBX.out x0
    have x1 := keep_cell HBX.out x1
    have x2 := keep_cell HBX.out x2
    have x3 := keep_cell HBX.out x3
    have x4 := keep_cell HBX.out x4
    have y0 := keep_cell HBX.out y0
    have y1 := keep_cell HBX.out y1
    have y2 := keep_cell HBX.out y2
    have y3 := keep_cell HBX.out y3
    have y4 := keep_cell HBX.out y4
    have u0 := keep_cell HBX.out u0
    have u1 := keep_cell HBX.out u1
    have u2 := keep_cell HBX.out u2
    have u3 := keep_cell HBX.out u3
    have u4 := keep_cell HBX.out u4
    have v0 := keep_cell HBX.out v0
    have v1 := keep_cell HBX.out v1
    have v2 := keep_cell HBX.out v2
    have v3 := keep_cell HBX.out v3
    have v4 := keep_cell HBX.out v4
    have HT1 := Lib.hid (HT1.out.below HBX.out)
    have HT2 := Lib.hid (HT2.out.below HBX.out)
    have HBR := Lib.hid (HBR.out.trans (HBX.out.mono HBR.out.size))
    clear HBX HR
    go_wp2_with (first
      | (go_at_call 17; (with_reducible refine (refSame_any 1 _ _ (.mk 0 ⟨#[]⟩ ⟨#[]⟩ 0 []) (.mk 0 ⟨#[]⟩ ⟨#[]⟩ 0 []) _ (leaf_is _ 0 0 ⟨#[]⟩ (Nat.zero_le _)) (leaf_is _ 0 0 ⟨#[]⟩ (Nat.zero_le _))).mono ?_); rintro e w8 ⟨he, hb8⟩; rw [same_self] at he; subst he; have HBR := Lib.hid (HBR.out.trans (hb8.mono HBR.out.size)); clear hb8)
      | (go_at_call 15; (with_reducible refine (no13_any _ _).mono ?_); rintro e w9 ⟨rfl, hb9⟩; have HBR := Lib.hid (HBR.out.trans (hb9.mono HBR.out.size)); clear hb9)
      | (go_at_call 11; (with_reducible refine (alive13_any _).mono ?_); rintro e w9 ⟨rfl, hb9⟩; have HBR := Lib.hid (HBR.out.trans (hb9.mono HBR.out.size)); clear hb9))
    go_ret
    exact ⟨rfl, HBR.out⟩
end Go.Proofs.YtncebhddcokkoaaDoor
/- Arguments by value: a term; what the row assumes of the listed variables is met by the door's own heap. -/
namespace Go.Proofs.YtncebhddcokkoaaDoor
open Go.ChangeShapes Go.WideShapes Go.ChangeAt Go.RowKit
theorem ownKn : ownKnob Tryd.prog.godebug = none := by kernel_rfl
theorem laidTry : laidOutB Tryd.prog = true := by kernel_rfl
set_option maxRecDepth 100000
section
variable {H : Type} {enc : TypeId × Value → H} {W : World} {base : Nat} {v : Value} {d : DataW H} {p : List MemPlace}
theorem arg_t (hval : Value.okWide Tryd.prog W .any base 36 v) (h : DataW.Trod enc Tryd.prog W 0 (fun _ => true) true 36 v d p) : ∃ (m : Nat) (t : Tm), IsT W m v t := by
  obtain ⟨cs, rfl, hsz⟩ := okWide_struct Tryd.underlying36 hval
  obtain ⟨fuel, hf⟩ := h
  obtain ⟨k, p', n, N, s, t, e, ht⟩ := trod_term fuel _ _ hf
  obtain ⟨l⟩ := cs
  simp [Value.cells] at e
  subst e
  exact ⟨fuel, t, ht⟩
end
end Go.Proofs.YtncebhddcokkoaaDoor
