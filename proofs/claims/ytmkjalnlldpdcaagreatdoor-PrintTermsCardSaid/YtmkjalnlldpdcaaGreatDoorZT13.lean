/- Texts in a row: Wd Wg Wh Wi. -/
import Derived.Test.YtmkjalnlldpdcaaGreatDoorZT9
import Derived.Test.YtmkjalnlldpdcaaGreatDoorZT12
set_option maxHeartbeats 16000000
set_option maxRecDepth 100000
namespace Go.Proofs.YtmkjalnlldpdcaaGreatDoor
open Go.ChangeShapes Go.WideShapes Go.RowKit Go.Deep
def IsC (w : World) : Nat → Value → Tm → Prop
 | 0, _, _ => False
 | d + 1, v, .mk k p n N kids => ∃ q c, v = tv k p n N (.slice q kids.length c) ∧ (k = 28 ∨ k = 30 → kids.length ≤ c) ∧ p.size ≤ maxLen ∧ n.size ≤ maxLen ∧ kids.length ≤ maxLen ∧
   ∀ i x, kids[i]? = some x → ∃ b o k' p' n' N' s', q = some ⟨b, o, none⟩ ∧ TAt w b (o + i * 5) k' p' n' N' s' ∧ IsC w d (tv k' p' n' N' s') x
def KidsC (w : World) (d : Nat) (s : Value) (kids : List Tm) : Prop := ∃ q c, s = .slice q kids.length c ∧ kids.length ≤ maxLen ∧
 ∀ i x, kids[i]? = some x → ∃ b o k' p' n' N' s', q = some ⟨b, o, none⟩ ∧ TAt w b (o + i * 5) k' p' n' N' s' ∧ IsC w d (tv k' p' n' N' s') x
theorem IsC.below {w w' : World} {d : Nat} (hb : Below w.heap.size w w') : ∀ {v : Value} {x : Tm}, IsC w d v x → IsC w' d v x := by
 induction d with
 | zero => intro v x h; exact h
 | succ d ih =>
  intro v x h
  obtain ⟨k, p, n, N, kids⟩ := x
  obtain ⟨q, c, h1, h0, h2, h3, h4, h5⟩ := h
  refine ⟨q, c, h1, h0, h2, h3, h4, fun i y hy => ?_⟩
  obtain ⟨b, o, k', p', n', N', s', e, ha, ht⟩ := h5 i y hy
  exact ⟨b, o, k', p', n', N', s', e, ha.below hb ha.lt, ih ht⟩
theorem IsC.more {w : World} {d d' : Nat} (hd : d ≤ d') : ∀ {v : Value} {x : Tm}, IsC w d v x → IsC w d' v x := by
 induction d generalizing d' with
 | zero => intro v x h; cases h
 | succ d ih =>
  intro v x h
  obtain ⟨d', rfl⟩ : ∃ m, d' = m + 1 := ⟨d' - 1, by omega⟩
  obtain ⟨k, p, n, N, kids⟩ := x
  obtain ⟨q, c, h1, h0, h2, h3, h4, h5⟩ := h
  refine ⟨q, c, h1, h0, h2, h3, h4, fun i y hy => ?_⟩
  obtain ⟨b, o, k', p', n', N', s', e, ha, ht⟩ := h5 i y hy
  exact ⟨b, o, k', p', n', N', s', e, ha, ih (by omega) ht⟩
theorem KidsC.below {w w' : World} {d : Nat} {s : Value} {kids : List Tm} (h : KidsC w d s kids) (hb : Below w.heap.size w w') : KidsC w' d s kids := by
 obtain ⟨q, c, h1, h4, h5⟩ := h
 refine ⟨q, c, h1, h4, fun i y hy => ?_⟩
 obtain ⟨b, o, k', p', n', N', s', e, ha, ht⟩ := h5 i y hy
 exact ⟨b, o, k', p', n', N', s', e, ha.below hb ha.lt, ht.below hb⟩
theorem IsC.open {w : World} {d : Nat} {v : Value} {x : Tm} (h : IsC w d v x) : ∃ m k p n N q c kids, d = m + 1 ∧ x = .mk k p n N kids ∧ v = tv k p n N (.slice q kids.length c) ∧ p.size ≤ maxLen ∧ n.size ≤ maxLen ∧ KidsC w m (.slice q kids.length c) kids ∧ (k = 28 ∨ k = 30 → kids.length ≤ c) := by
 cases d with
 | zero => cases h
 | succ d =>
  obtain ⟨k, p, n, N, kids⟩ := x
  obtain ⟨q, c, h1, h0, h2, h3, h4, h5⟩ := h
  exact ⟨d, k, p, n, N, q, c, kids, rfl, rfl, h1, h2, h3, ⟨q, c, rfl, h4, h5⟩, h0⟩
theorem IsC.shut {w : World} {d : Nat} {k : Int} {p n : ByteArray} {N : Int} {s : Value} {kids : List Tm} (hp : p.size ≤ maxLen) (hn : n.size ≤ maxLen) (h : KidsC w d s kids) (hc : ∀ q l c, s = .slice q l c → l ≤ c) : IsC w (d + 1) (tv k p n N s) (.mk k p n N kids) := by
 obtain ⟨q, c, rfl, h4, h5⟩ := h
 exact ⟨q, c, rfl, fun _ => hc _ _ _ rfl, hp, hn, h4, h5⟩
theorem IsC.isT {w : World} {d : Nat} : ∀ {v : Value} {x : Tm}, IsC w d v x → IsT w d v x := by
 induction d with
 | zero => intro v x h; cases h
 | succ d ih =>
  intro v x h
  obtain ⟨k, p, n, N, kids⟩ := x
  obtain ⟨q, c, h1, _, h2, h3, h4, h5⟩ := h
  refine ⟨q, c, h1, h2, h3, h4, fun i y hy => ?_⟩
  obtain ⟨b, o, k', p', n', N', s', e, ha, ht⟩ := h5 i y hy
  exact ⟨b, o, k', p', n', N', s', e, ha, ih ht⟩
def NoSl : Nat → Tm → Prop
 | 0, _ => True
 | d + 1, .mk k _ _ _ kids => k ≠ 28 ∧ k ≠ 30 ∧ ∀ x ∈ kids, NoSl d x
theorem IsC.of {w : World} {d : Nat} : ∀ {v : Value} {x : Tm}, IsT w d v x → NoSl d x → IsC w d v x := by
 induction d with
 | zero => intro v x h; cases h
 | succ d ih =>
  intro v x h hn
  obtain ⟨k, p, n, N, kids⟩ := x
  obtain ⟨q, c, h1, h2, h3, h4, h5⟩ := h
  obtain ⟨n1, n2, n3⟩ := hn
  refine ⟨q, c, h1, fun h => by omega, h2, h3, h4, fun i y hy => ?_⟩
  obtain ⟨b, o, k', p', n', N', s', e, ha, ht⟩ := h5 i y hy
  exact ⟨b, o, k', p', n', N', s', e, ha, ih ht (n3 y (List.mem_of_getElem? hy))⟩
section
variable {H : Type} {enc : TypeId × Value → H} {W : World} {v : Value} {d : DataW H} {p : List MemPlace}
end
end Go.Proofs.YtmkjalnlldpdcaaGreatDoor
namespace Go.Proofs.YtmkjalnlldpdcaaGreatDoor
open Go.RowKit
set_option linter.unusedSimpArgs false
set_option linter.unusedVariables false
def eachT (sep : List UInt8) : List (List UInt8) → List UInt8
 | [] => []
 | a :: r => a ++ r.flatMap (sep ++ ·)
def heldT (l : List (List UInt8)) : List UInt8 := 40 :: (eachT [44, 32] l ++ [41])
theorem eachT_snoc (sep : List UInt8) {ls : List (List UInt8)} (h : ls ≠ []) (x : List UInt8) : eachT sep (ls ++ [x]) = eachT sep ls ++ (sep ++ x) := by
 cases ls with
 | nil => exact absurd rfl h
 | cons a r => simp [eachT]
theorem eachT_one (sep x : List UInt8) : eachT sep [x] = x := by simp [eachT]
def kdM : Tm → Int | .mk k _ _ _ _ => k
def openM : Tm → Bool | .mk k _ _ _ kids => (k == 24 && kids.length == 0) || k == 26 || k == 28 || k == 29
def withinT (needs : Bool) (x : List UInt8) : List UInt8 := if needs then 40 :: (x ++ [41]) else x
def annT (l : List (List UInt8)) : List UInt8 := l.flatMap ([32, 58, 32] ++ ·)
def armsT : Bool → List (List UInt8) → List UInt8
 | first, a :: c :: r => (if first then [32, 119, 105, 116, 104, 32] else [32, 124, 32]) ++ (a ++ ([32, 45, 62, 32] ++ (c ++ armsT false r)))
 | _, _ => []
def qualT (p n : ByteArray) : List UInt8 := (if p.toList = [] then [] else p.data.toList ++ [46]) ++ n.data.toList
def cmpT (k : Int) (n : ByteArray) (N : Int) (l : List (Tm × List UInt8)) : List UInt8 :=
 if k = 3 then (match l with
  | [a, c] => withinT (kdM a.1 == 3) a.2 ++ ([32, 45, 62, 32] ++ c.2)
  | _ => [])
 else if k = 26 then (match l with
  | [a] => [102, 117, 110, 32] ++ (n.data.toList ++ ([32, 45, 62, 32] ++ a.2))
  | _ => [])
 else if k = 27 then (match l with
  | [a, c] => withinT (openM a.1) a.2 ++ ([32] ++ withinT (openM c.1 || kdM c.1 == 27) c.2)
  | _ => [])
 else if k = 28 then (match l with
  | a :: c :: r => [108, 101, 116, 32] ++ ((if N = 1 then [114, 101, 99, 32] else []) ++ (n.data.toList ++ (annT (r.map Prod.snd) ++ ([32, 61, 32] ++ (a.2 ++ ([32, 105, 110, 32] ++ c.2))))))
  | _ => [])
 else if k = 29 then (match l with
  | a :: r => [109, 97, 116, 99, 104, 32] ++ (a.2 ++ (armsT true (r.map Prod.snd) ++ [32, 101, 110, 100]))
  | _ => [])
 else if k = 30 then (match l with
  | a :: r => [40] ++ (a.2 ++ (annT (r.map Prod.snd) ++ [41]))
  | _ => [])
 else []
def txt : Nat → Tm → List UInt8
 | 0, _ => []
 | d + 1, .mk k p n N kids =>
  if k = 1 then tellT ⟨3, n, 0⟩
  else if k = 11 then [95]
  else if k = 13 ∨ k = 22 then tellT ⟨4, ⟨#[]⟩, N⟩
  else if k = 14 ∨ k = 23 then tellT ⟨5, n, 0⟩
  else if k = 12 ∨ k = 21 ∨ k = 2 ∨ k = 15 ∨ k = 24 then qualT p n ++ (if kids.length = 0 then [] else heldT (kids.map (txt d)))
  else if k = 4 ∨ k = 16 ∨ k = 25 then heldT (kids.map (txt d))
  else cmpT k n N (kids.map fun x => (x, txt d x))
def WfT : Nat → Tm → Prop
 | 0, _ => False
 | d + 1, .mk k p n N kids => p.size ≤ 100000 ∧ n.size ≤ 100000 ∧ (-9223372036854775808 ≤ N ∧ N ≤ 9223372036854775807) ∧ (∀ x ∈ kids, WfT d x) ∧
  ((k = 1 ∧ RightT ⟨3, n, 0⟩) ∨ k = 11 ∨ ((k = 13 ∨ k = 22) ∧ RightT ⟨4, ⟨#[]⟩, N⟩) ∨ ((k = 14 ∨ k = 23) ∧ RightT ⟨5, n, 0⟩) ∨ (k = 12 ∨ k = 21 ∨ k = 2 ∨ k = 15 ∨ k = 24) ∨ (k = 4 ∨ k = 16 ∨ k = 25) ∨
   (k = 3 ∧ kids.length = 2) ∨ (k = 26 ∧ kids.length = 1) ∨ (k = 27 ∧ kids.length = 2) ∨ (k = 28 ∧ (kids.length = 2 ∨ kids.length = 3)) ∨ (k = 29 ∧ 3 ≤ kids.length ∧ kids.length % 2 = 1) ∨ (k = 30 ∧ kids.length = 2))
abbrev wp (b : Nat) : Value := .pointer (some ⟨b, 0, none⟩)
def TermC (d : Nat) : Prop := ∀ (w0 : World) (b : Nat) (l : List UInt8) (v : Value) (x : Tm) (w : World), Cx w0 b l w → IsC w0 d v x → WfT d x → l.length + (txt d x).length ≤ 1000000000 →
 Calls Tryz.prog 75 #[wp b, v] w (Tells w0 b l (txt d x) w)
def Row9 (w0 w : World) (b d : Nat) (s : Value) (kids : List Tm) : Prop := ∃ q c, s = .slice q kids.length c ∧ kids.length ≤ maxLen ∧
 ∀ i x, kids[i]? = some x → ∃ g o k p n N s', q = some ⟨g, o, none⟩ ∧ TAt w g (o + i * 5) k p n N s' ∧ IsC w0 d (tv k p n N s') x ∧
  (g < w0.heap.size ∨ (g ≠ b ∧ ∃ cs fr, w.heap[g]? = some (.cells cs 24 fr)))
theorem cell_heap {w w' : World} {g : Nat} (h : w'.heap[g]? = w.heap[g]?) (j : Nat) : w'.cell? ⟨g, j, none⟩ = w.cell? ⟨g, j, none⟩ := by
 unfold World.cell?
 simp only [h]
theorem Row9.move {w0 w w' : World} {b d : Nat} {s : Value} {kids : List Tm} (h : Row9 w0 w b d s kids) (h1 : ∀ k < w0.heap.size, w'.heap[k]? = w.heap[k]?)
 (h2 : ∀ k cs fr, k ≠ b → w.heap[k]? = some (.cells cs 24 fr) → w'.heap[k]? = some (.cells cs 24 fr)) : Row9 w0 w' b d s kids := by
 obtain ⟨q, c, e, hm, hr⟩ := h
 refine ⟨q, c, e, hm, fun i x hx => ?_⟩
 obtain ⟨g, o, k, p, n, N, s', e1, e2, e3, e4⟩ := hr i x hx
 rcases e4 with e4 | ⟨e4, cs, fr, e5⟩
 · exact ⟨g, o, k, p, n, N, s', e1, e2.keep (cell_heap (h1 g e4)), e3, .inl e4⟩
 · have e6 := h2 g cs fr e4 e5
   exact ⟨g, o, k, p, n, N, s', e1, e2.keep (cell_heap (e6.trans e5.symm)), e3, .inr ⟨e4, cs, fr, e6⟩⟩
theorem Row9.wr {w0 w w' : World} {b d : Nat} {s : Value} {kids : List Tm} {l x : List UInt8} (h : Row9 w0 w b d s kids) (k : Wr w0.heap.size b l x w w') : Row9 w0 w' b d s kids :=
 h.move (fun g hg => k.2.1.block g hg) fun g cs fr hg h2 => k.2.2 g cs 24 fr hg (by decide) h2
theorem Row9.grow {w0 w w' : World} {b d : Nat} {s : Value} {kids : List Tm} (h : Row9 w0 w b d s kids) (hs : w0.heap.size ≤ w.heap.size) (hb : Below w.heap.size w w') : Row9 w0 w' b d s kids :=
 h.move (fun g hg => hb.block g (by omega)) fun g cs fr _ h2 => by rw [hb.block g (hb_lt h2)]; exact h2
theorem Row9.of {w0 w : World} {b d : Nat} {s : Value} {kids : List Tm} (h : KidsC w0 d s kids) (hb : Below w0.heap.size w0 w) : Row9 w0 w b d s kids := by
 obtain ⟨q, c, e, hm, hr⟩ := h
 refine ⟨q, c, e, hm, fun i x hx => ?_⟩
 obtain ⟨g, o, k, p, n, N, s', e1, e2, e3⟩ := hr i x hx
 exact ⟨g, o, k, p, n, N, s', e1, e2.below hb e2.lt, e3, .inl e2.lt⟩
theorem Cx.lt {w0 w : World} {b : Nat} {l : List UInt8} (h : Cx w0 b l w) : b < w.heap.size := by
 rcases h.bld with k | k
 · obtain ⟨_, v, hk, _⟩ := k; exact hb_lt hk
 · obtain ⟨_, v, hk, _⟩ := k; exact hb_lt hk
theorem term_slice {w : World} {d : Nat} {k : Int} {p n : ByteArray} {N : Int} {s : Value} {x : Tm} (h : IsC w d (tv k p n N s) x) : ∃ q l c, s = .slice q l c := by
 cases d with
 | zero => cases h
 | succ d =>
  obtain ⟨k', p', n', N', kids⟩ := x
  obtain ⟨q, c, e, _⟩ := h
  simp [tv] at e
  exact ⟨q, _, c, e.2.2.2.2⟩
theorem eachT_take (sep : List UInt8) (ls : List (List UInt8)) (k : Nat) : (eachT sep (ls.take k)).length ≤ (eachT sep ls).length := by
 cases ls with
 | nil => simp
 | cons a r =>
  cases k with
  | zero => simp [eachT]
  | succ k =>
   have h : r.flatMap (sep ++ ·) = (r.take k).flatMap (sep ++ ·) ++ (r.drop k).flatMap (sep ++ ·) := by rw [← List.flatMap_append, List.take_append_drop]
   show (a ++ (r.take k).flatMap (sep ++ ·)).length ≤ (a ++ r.flatMap (sep ++ ·)).length
   rw [h]
   simp only [List.length_append]
   omega
theorem each_any {w0 : World} (b d : Nat) (HT : TermC d) (l : List UInt8) (sep : ByteArray) (s : Value) (kids : List Tm) (w : World) (h : Cx w0 b l w) (hr : Row9 w0 w b d s kids) (hw : ∀ x ∈ kids, WfT d x)
 (hl : l.length + (eachT sep.data.toList (kids.map (txt d))).length ≤ 1000000000) :
 Calls Tryz.prog 195 #[wp b, .string sep, s, .func (.func 75) #[wp b] #[]] w (Tells w0 b l (eachT sep.data.toList (kids.map (txt d))) w) := by
 have HT := Hd HT
 have HH := Hd h
 have HR := Hd hr
 have HW := Hd hw
 obtain ⟨q, c, rfl, hm, _⟩ := hr
 unfold maxLen at hm
 clear h hw
 have hcat : cat [sep] = sep.data.toList := cat_one sep
 go_enter Tryz.func195, Tryz.ntmps195
 go_wp2
 go_loopw [12] (fun i wr => ∃ k : Nat, i = .int .i64 k ∧ k ≤ kids.length ∧ Wr w0.heap.size b l (eachT sep.data.toList ((kids.take k).map (txt d))) w wr) (fun i _ => kids.length - (intOf i).toNat)
 case atStart => exact ⟨0, rfl, Nat.zero_le _, Wr.open HH.out⟩
 case round =>
  obtain ⟨k, rfl, hk, hW⟩ := hrel
  have HWr := Hd hW
  have hws := hW.2.1.size
  clear hW
  by_cases hlt : k < kids.length
  · have hki : (k : Int) < (kids.length : Int) := by omega
    have hx := List.getElem?_eq_getElem hlt
    generalize kids[k] = x at *
    have hR2 := HR.out.wr HWr.out
    obtain ⟨q', c', e, _, hr2⟩ := hR2
    cases e
    obtain ⟨g, o, k1, p1, n1, N1, s1, rfl, ha, ht, _⟩ := hr2 k x hx
    obtain ⟨q3, l3, c3, rfl⟩ := term_slice ht
    obtain ⟨x0, x1, x2, x3, x4⟩ := ha
    have hwx := HW.out x (List.mem_of_getElem? hx)
    have hnext : (kids.take (k + 1)).map (txt d) = (kids.take k).map (txt d) ++ [txt d x] := by rw [List.take_add_one, hx]; simp
    have hlen : l.length + (eachT sep.data.toList ((kids.take (k + 1)).map (txt d))).length ≤ 1000000000 := by
     have := eachT_take sep.data.toList (kids.map (txt d)) (k + 1)
     rw [← List.map_take] at this
     omega
    rw [hnext] at hlen
    have HN := Hd hnext
    have HL := Hd hlen
    have HTx := Hd ht
    have HX := Hd hwx
    have hCx := HH.out.wr HWr.out
    have HC := Hd hCx
    have hbl := hCx.lt
    have hsz := hCx.size
    clear hr2 hx hnext ht hwx hlen hCx
    by_cases hk0 : k = 0
    · subst hk0
      have H75 : RowKit.Hid (∀ W, Cx w0 b l W → Calls Tryz.prog 75 #[wp b, tv k1 p1 n1 N1 (.slice q3 l3 c3)] W (Tells w0 b l (txt d x) W)) := Hd fun W hW => HT.out w0 b l _ x W hW HTx.out HX.out (by
       have := HL.out
       simp [eachT] at this
       omega)
      simp only [Nat.zero_mul, Nat.add_zero] at x0 x1 x2 x3 x4
      have HC0 : RowKit.Hid (Cx w0 b l wr) := Hd (by have := HC.out; simpa [eachT] using this)
      go_wp2_with (go_at_call 75; refine (H75.out _ (HC0.out.alloc _)).mono ?_; rintro e w1 ⟨rfl, h1⟩; have HW1 := Hd h1; clear h1)
      exact ⟨⟨1, rfl, by omega, by
       rw [HN.out]
       have h0 : Wr w0.heap.size b l [] w wr := by have := HWr.out; simpa [eachT] using this
       have h2 : Wr w0.heap.size b (l ++ []) (txt d x) (wr.alloc (.cells #[.int .i64 k1, .string p1, .string n1, .int .i64 N1, .slice q3 l3 c3] 24)) w1 := by rw [List.append_nil]; exact HW1.out
       have h3 := Wr.next h0 HH.out.size (below_alloc wr _) h2
       simpa [eachT] using h3⟩, by simp [intOf]; omega⟩
    · have hk1 : (0 : Int) < (k : Int) := by omega
      have hne : (kids.take k).map (txt d) ≠ [] := by
       intro h0
       have h1 := congrArg List.length h0
       rw [List.length_map, List.length_take] at h1
       simp only [List.length_nil] at h1
       omega
      have hL := HL.out
      rw [eachT_snoc _ hne, List.length_append, List.length_append] at hL
      have HS : RowKit.Hid (∀ W g, Cx w0 b (l ++ eachT sep.data.toList ((kids.take k).map (txt d))) W → W.heap[g]? = some (.cells #[.string sep] 9 (0, 0)) → Calls Tryz.prog 99 #[wp b, .slice (some ⟨g, 0, none⟩) 1 1] W (Tells w0 b (l ++ eachT sep.data.toList ((kids.take k).map (txt d))) sep.data.toList W)) := Hd (by
       intro W g hW hg
       have := adds_any b g 1 _ [sep] W (0, 0) hW hg (by rw [hcat, List.length_append]; omega) (by simp)
       rwa [hcat] at this)
      have H75 : RowKit.Hid (∀ W, Cx w0 b ((l ++ eachT sep.data.toList ((kids.take k).map (txt d))) ++ sep.data.toList) W → Calls Tryz.prog 75 #[wp b, tv k1 p1 n1 N1 (.slice q3 l3 c3)] W (Tells w0 b ((l ++ eachT sep.data.toList ((kids.take k).map (txt d))) ++ sep.data.toList) (txt d x) W)) := Hd fun W hW => HT.out w0 b _ _ x W hW HTx.out HX.out (by
       simp only [List.length_append]
       omega)
      have HNE := Hd hne
      clear hne hL
      generalize hE : eachT sep.data.toList ((kids.take k).map (txt d)) = E at *
      have HE := Hd hE
      clear hE
      have hk3 := hb_new wr (.cells #[.int .i64 k1, .string p1, .string n1, .int .i64 N1, .slice q3 l3 c3] 24)
      have HK3 := Hd hk3
      clear hk3
      go_wp2_with (go_at_call 99; refine (HS.out _ _ ((HC.out.alloc _).alloc _) (str_new _ _ _ (by simp))).mono ?_; rintro e w1 ⟨rfl, h1⟩; have kb1 := h1.2.2 _ _ 24 _ (by omega) (by decide) (hb_alloc HK3.out _); obtain ⟨m0, m1, m2, m3, m4⟩ := hb5 kb1; have HW1 := Hd h1; clear h1)
      go_wp2_with (go_at_call 75; refine (H75.out _ (((HC.out.alloc _).alloc _).wr HW1.out)).mono ?_; rintro e w2 ⟨rfl, h2⟩; have HW2 := Hd h2; clear h2)
      exact ⟨⟨k + 1, rfl, by omega, by
       rw [HN.out, eachT_snoc _ HNE.out]
       rw [HE.out]
       exact (Wr.next HWr.out HH.out.size (below_two wr _ _) (HW1.out.trans HW2.out))⟩, by simp [intOf]; omega⟩
  · have hki : ¬ (k : Int) < (kids.length : Int) := by omega
    obtain rfl : k = kids.length := by omega
    rw [List.take_length] at HWr
    go_wp2
    go_end0
    exact ⟨rfl, HWr.out⟩
theorem add1 {w0 : World} {b : Nat} {l : List UInt8} (s : ByteArray) (W : World) (g : Nat) (hW : Cx w0 b l W) (hg : W.heap[g]? = some (.cells #[.string s] 9 (0, 0))) (hl : l.length + s.data.toList.length ≤ 1000000000) :
 Calls Tryz.prog 99 #[wp b, .slice (some ⟨g, 0, none⟩) 1 1] W (Tells w0 b l s.data.toList W) := by
 have := adds_any b g 1 l [s] W (0, 0) hW hg (by rw [cat_one]; exact hl) (by simp)
 rwa [cat_one] at this
theorem add2 {w0 : World} {b : Nat} {l : List UInt8} (s t : ByteArray) (W : World) (g : Nat) (hW : Cx w0 b l W) (hg : W.heap[g]? = some (.cells #[.string s, .string t] 9 (0, 0))) (hl : l.length + (s.data.toList ++ t.data.toList).length ≤ 1000000000) :
 Calls Tryz.prog 99 #[wp b, .slice (some ⟨g, 0, none⟩) 2 2] W (Tells w0 b l (s.data.toList ++ t.data.toList) W) := by
 have e : cat [s, t] = s.data.toList ++ t.data.toList := by simp [cat]
 have := adds_any b g 2 l [s, t] W (0, 0) hW hg (by rw [e]; exact hl) (by simp)
 rwa [e] at this
theorem add3 {w0 : World} {b : Nat} {l : List UInt8} (s t u : ByteArray) (W : World) (g : Nat) (hW : Cx w0 b l W) (hg : W.heap[g]? = some (.cells #[.string s, .string t, .string u] 9 (0, 0))) (hl : l.length + (s.data.toList ++ (t.data.toList ++ u.data.toList)).length ≤ 1000000000) :
 Calls Tryz.prog 99 #[wp b, .slice (some ⟨g, 0, none⟩) 3 3] W (Tells w0 b l (s.data.toList ++ (t.data.toList ++ u.data.toList)) W) := by
 have e : cat [s, t, u] = s.data.toList ++ (t.data.toList ++ u.data.toList) := by simp [cat]
 have := adds_any b g 3 l [s, t, u] W (0, 0) hW hg (by rw [e]; exact hl) (by simp)
 rwa [e] at this
theorem new_at (w : World) (cs : Array Value) (T : TypeId) (g : Nat) (hg : g = w.heap.size) : (w.alloc (.cells cs T)).heap[g]? = some (.cells cs T (0, 0)) := by
 subst hg
 exact hb_new w (.cells cs T)
theorem held_any {w0 : World} (b d : Nat) (HT : TermC d) (l : List UInt8) (s : Value) (kids : List Tm) (w : World) (h : Cx w0 b l w) (hr : Row9 w0 w b d s kids) (hw : ∀ x ∈ kids, WfT d x)
 (hl : l.length + (heldT (kids.map (txt d))).length ≤ 1000000000) :
 Calls Tryz.prog 142 #[wp b, s, .func (.func 75) #[wp b] #[]] w (Tells w0 b l (heldT (kids.map (txt d))) w) := by
 have hh : heldT (kids.map (txt d)) = [40] ++ (eachT [44, 32] (kids.map (txt d)) ++ [41]) := rfl
 rw [hh] at hl ⊢
 have h1 := Hd (fun W g (hW : Cx w0 b l W) hg => add1 (w0 := w0) (b := b) (l := l) ⟨#[40]⟩ W g hW hg Q63)
 have h2 : RowKit.Hid (∀ W, Cx w0 b (l ++ [40]) W → Row9 w0 W b d s kids → Calls Tryz.prog 195 #[wp b, .string ⟨#[44, 32]⟩, s, .func (.func 75) #[wp b] #[]] W (Tells w0 b (l ++ [40]) (eachT [44, 32] (kids.map (txt d))) W)) :=
  Hd fun W hW hR => each_any b d HT (l ++ [40]) ⟨#[44, 32]⟩ s kids W hW hR hw Q63
 have h3 := Hd (fun W g (hW : Cx w0 b ((l ++ [40]) ++ eachT [44, 32] (kids.map (txt d))) W) hg => add1 (w0 := w0) (b := b) ⟨#[41]⟩ W g hW hg Q63)
 have HH := Hd h
 have HR := Hd hr
 obtain ⟨q, c, rfl, hm, _⟩ := hr
 clear h hw hl hh
 generalize eachT [44, 32] (kids.map (txt d)) = E at *
 go_enter Tryz.func142, Tryz.ntmps142
 go_wp2_with (go_at_call 99; refine (h1.out _ _ (HH.out.alloc _) (new_at _ _ _ _ (by simp))).mono ?_; rintro e w1 ⟨rfl, k1⟩; have HW1 := Hd k1; clear k1)
 go_wp2_with (go_at_call 195; refine (h2.out _ ((HH.out.alloc _).wr HW1.out) ((HR.out.grow HH.out.size (below_alloc w _)).wr HW1.out)).mono ?_; rintro e w2 ⟨rfl, k2⟩; have HW2 := Hd k2; clear k2)
 go_wp2_with (go_at_call 99; refine (h3.out _ _ ((((HH.out.alloc _).wr HW1.out).wr HW2.out).alloc _) (new_at _ _ _ _ (by simp))).mono ?_; rintro e w3 ⟨rfl, k3⟩; have HW3 := Hd k3; clear k3)
 go_end0
 exact ⟨rfl, Wr.first HH.out (below_alloc w _) (HW1.out.trans (Wr.next HW2.out (Nat.le_trans HH.out.size (Nat.le_trans (by simp) HW1.out.2.1.size)) (below_alloc w2 _) HW3.out))⟩
theorem isOpen_any (k : Int) (p n : ByteArray) (N : Int) (q : Option Addr) (c : Nat) (kids : List Tm) (w : World) :
 Calls Tryz.prog 197 #[tv k p n N (.slice q kids.length c)] w fun e w' => e = .returned (.bool (openM (.mk k p n N kids))) ∧ Below w.heap.size w w' := by
 have hnew := hb_new w (.cells #[.int .i64 k, .string p, .string n, .int .i64 N, .slice q kids.length c] 24)
 have hz : ((kids.length : Int) == 0) = (kids.length == 0) := by
  by_cases hz : kids.length = 0
  · rw [hz]; rfl
  · rw [beq_eq_false_iff_ne.2 hz, beq_eq_false_iff_ne.2 (by omega)]
 by_cases h24 : k = 24
 · subst h24
   go_enter Tryz.func197, Tryz.ntmps197
   go_wp2
   go_ret
   exact ⟨by simp [openM], below_alloc w _⟩
 by_cases h26 : k = 26
 · subst h26
   go_enter Tryz.func197, Tryz.ntmps197
   go_wp2
   go_ret
   exact ⟨by simp [openM], below_alloc w _⟩
 by_cases h28 : k = 28
 · subst h28
   go_enter Tryz.func197, Tryz.ntmps197
   go_wp2
   go_ret
   exact ⟨by simp [openM], below_alloc w _⟩
 by_cases h29 : k = 29
 · subst h29
   go_enter Tryz.func197, Tryz.ntmps197
   go_wp2
   go_ret
   exact ⟨by simp [openM], below_alloc w _⟩
 have e24 : (k == 24) = false := by simpa using h24
 have e26 : (k == 26) = false := by simpa using h26
 have e28 : (k == 28) = false := by simpa using h28
 have e29 : (k == 29) = false := by simpa using h29
 have e0 : openM (.mk k p n N kids) = false := by simp [openM, e24, e26, e28, e29]
 rw [e0]
 go_enter Tryz.func197, Tryz.ntmps197
 go_wp2
 go_ret
 exact ⟨rfl, below_alloc w _⟩
theorem Row9.single {w0 W : World} {b d : Nat} {k : Int} {p n : ByteArray} {N : Int} {s : Value} {x : Tm} (ht : IsC w0 d (tv k p n N s) x) (g : Nat) (hg : W.heap[g]? = some (.cells #[.int .i64 k, .string p, .string n, .int .i64 N, s] 24 (0, 0))) (hgb : g ≠ b) :
 Row9 w0 W b d (.slice (some ⟨g, 0, none⟩) 1 1) [x] := by
 refine ⟨_, _, rfl, by show 1 ≤ maxLen; decide, fun i y hy => ?_⟩
 cases i with
 | zero =>
  simp at hy
  subst hy
  exact ⟨g, 0, k, p, n, N, s, rfl, ⟨hb_at hg 0 rfl, hb_at hg 1 rfl, hb_at hg 2 rfl, hb_at hg 3 rfl, hb_at hg 4 rfl⟩, ht, .inr ⟨hgb, _, _, hg⟩⟩
 | succ i => simp at hy
theorem kids_one (x : Tm) (f : Tm → List UInt8) : heldT ([x].map f) = 40 :: (f x ++ [41]) := by simp [heldT, eachT]
theorem within_any {w0 : World} (b d : Nat) (HT : TermC d) (l : List UInt8) (needs : Bool) (v : Value) (x : Tm) (w : World) (h : Cx w0 b l w) (ht : IsC w0 d v x) (hw : WfT d x)
 (hl : l.length + (withinT needs (txt d x)).length ≤ 1000000000) :
 Calls Tryz.prog 196 #[wp b, v, .bool needs] w (Tells w0 b l (withinT needs (txt d x)) w) := by
 obtain ⟨dm, k1, p1, n1, N1, q1, c1, kids, rfl, rfl, rfl, _, _, _, _⟩ := ht.open
 have HH := Hd h
 cases needs with
 | true =>
  have h1 : RowKit.Hid (∀ W s, Cx w0 b l W → Row9 w0 W b (dm + 1) s [.mk k1 p1 n1 N1 kids] → Calls Tryz.prog 142 #[wp b, s, .func (.func 75) #[wp b] #[]] W (Tells w0 b l (withinT true (txt (dm + 1) (.mk k1 p1 n1 N1 kids))) W)) := Hd (by
   intro W s hW hR
   have := held_any b (dm + 1) HT l s [.mk k1 p1 n1 N1 kids] W hW hR (by intro y hy; rw [List.mem_singleton.1 hy]; exact hw) (by rw [kids_one]; exact hl)
   rw [kids_one] at this
   exact this)
  have HTx := Hd ht
  have HL := h.lt
  generalize withinT true (txt (dm + 1) (.mk k1 p1 n1 N1 kids)) = X at *
  clear hl h hw ht
  go_enter Tryz.func196, Tryz.ntmps196
  go_wp2_with (go_at_call 142; refine (h1.out _ _ ((HH.out.alloc _).alloc _) (Row9.single HTx.out _ (new_at _ _ _ _ (by simp)) (by omega))).mono ?_; rintro e w1 ⟨rfl, k1⟩)
  go_end0
  exact ⟨rfl, Wr.first HH.out (below_two w _ _) k1⟩
 | false =>
  have h1 : RowKit.Hid (∀ W, Cx w0 b l W → Calls Tryz.prog 75 #[wp b, tv k1 p1 n1 N1 (.slice q1 kids.length c1)] W (Tells w0 b l (withinT false (txt (dm + 1) (.mk k1 p1 n1 N1 kids))) W)) := Hd fun W hW => HT w0 b l _ _ W hW ht hw hl
  generalize withinT false (txt (dm + 1) (.mk k1 p1 n1 N1 kids)) = X at *
  clear hl h hw ht
  go_enter Tryz.func196, Tryz.ntmps196
  go_wp2_with (go_at_call 75; refine (h1.out _ (HH.out.alloc _)).mono ?_; rintro e w1 ⟨rfl, k1⟩)
  go_end0
  exact ⟨rfl, Wr.first HH.out (below_alloc w _) k1⟩
theorem annT_take (ls : List (List UInt8)) (k : Nat) : (annT (ls.take k)).length ≤ (annT ls).length := by
 have h : annT ls = annT (ls.take k) ++ annT (ls.drop k) := by unfold annT; rw [← List.flatMap_append, List.take_append_drop]
 rw [h, List.length_append]
 omega
theorem ann_any {w0 : World} (b d : Nat) (HT : TermC d) (l : List UInt8) (s : Value) (kids : List Tm) (w : World) (h : Cx w0 b l w) (hr : Row9 w0 w b d s kids) (hw : ∀ x ∈ kids, WfT d x)
 (hl : l.length + (annT (kids.map (txt d))).length ≤ 1000000000) :
 Calls Tryz.prog 104 #[wp b, s] w (Tells w0 b l (annT (kids.map (txt d))) w) := by
 have HT := Hd HT
 have HH := Hd h
 have HR := Hd hr
 have HW := Hd hw
 obtain ⟨q, c, rfl, hm, _⟩ := hr
 unfold maxLen at hm
 clear h hw
 go_enter Tryz.func104, Tryz.ntmps104
 go_wp2
 go_loopw [8] (fun i wr => ∃ k : Nat, i = .int .i64 k ∧ k ≤ kids.length ∧ Wr w0.heap.size b l (annT ((kids.take k).map (txt d))) w wr) (fun i _ => kids.length - (intOf i).toNat)
 case atStart => exact ⟨0, rfl, Nat.zero_le _, Wr.open HH.out⟩
 case round =>
  obtain ⟨k, rfl, hk, hW⟩ := hrel
  have HWr := Hd hW
  have hws := hW.2.1.size
  clear hW
  by_cases hlt : k < kids.length
  · have hki : (k : Int) < (kids.length : Int) := by omega
    have hx := List.getElem?_eq_getElem hlt
    generalize kids[k] = x at *
    have hR2 := HR.out.wr HWr.out
    obtain ⟨q', c', e, _, hr2⟩ := hR2
    cases e
    obtain ⟨g, o, k1, p1, n1, N1, s1, rfl, ha, ht, _⟩ := hr2 k x hx
    obtain ⟨q3, l3, c3, rfl⟩ := term_slice ht
    obtain ⟨x0, x1, x2, x3, x4⟩ := ha
    have hwx := HW.out x (List.mem_of_getElem? hx)
    have hnext : annT ((kids.take (k + 1)).map (txt d)) = annT ((kids.take k).map (txt d)) ++ ([32, 58, 32] ++ txt d x) := by rw [List.take_add_one, hx]; simp [annT]
    have hL : l.length + (annT ((kids.take (k + 1)).map (txt d))).length ≤ 1000000000 := by
     have := annT_take (kids.map (txt d)) (k + 1)
     rw [← List.map_take] at this
     omega
    rw [hnext, List.length_append, List.length_append] at hL
    have HN := Hd hnext
    have HTx := Hd ht
    have HX := Hd hwx
    have hCx := HH.out.wr HWr.out
    have HC := Hd hCx
    have hbl := hCx.lt
    have hsz := hCx.size
    clear hr2 hx hnext ht hwx hCx
    have HS := Hd (fun W g (hW : Cx w0 b (l ++ annT ((kids.take k).map (txt d))) W) hg => add1 (w0 := w0) (b := b) ⟨#[32, 58, 32]⟩ W g hW hg (by simp at hL ⊢; omega))
    have H75 : RowKit.Hid (∀ W, Cx w0 b ((l ++ annT ((kids.take k).map (txt d))) ++ [32, 58, 32]) W → Calls Tryz.prog 75 #[wp b, tv k1 p1 n1 N1 (.slice q3 l3 c3)] W (Tells w0 b ((l ++ annT ((kids.take k).map (txt d))) ++ [32, 58, 32]) (txt d x) W)) := Hd fun W hW => HT.out w0 b _ _ x W hW HTx.out HX.out (by
     simp only [List.length_append]
     omega)
    clear hL
    generalize annT ((kids.take k).map (txt d)) = E at *
    have hk3 := hb_new wr (.cells #[.int .i64 k1, .string p1, .string n1, .int .i64 N1, .slice q3 l3 c3] 24)
    have HK3 := Hd hk3
    clear hk3
    go_wp2_with (go_at_call 99; refine (HS.out _ _ ((HC.out.alloc _).alloc _) (new_at _ _ _ _ (by simp))).mono ?_; rintro e w1 ⟨rfl, h1⟩; have kb1 := h1.2.2 _ _ 24 _ (by omega) (by decide) (hb_alloc HK3.out _); obtain ⟨m0, m1, m2, m3, m4⟩ := hb5 kb1; have HW1 := Hd h1; clear h1)
    go_wp2_with (go_at_call 75; refine (H75.out _ (((HC.out.alloc _).alloc _).wr HW1.out)).mono ?_; rintro e w2 ⟨rfl, h2⟩; have HW2 := Hd h2; clear h2)
    exact ⟨⟨k + 1, rfl, by omega, by
     rw [HN.out]
     exact (Wr.next HWr.out HH.out.size (below_two wr _ _) (HW1.out.trans HW2.out))⟩, by simp [intOf]; omega⟩
  · have hki : ¬ (k : Int) < (kids.length : Int) := by omega
    obtain rfl : k = kids.length := by omega
    rw [List.take_length] at HWr
    go_wp2
    go_end0
    exact ⟨rfl, HWr.out⟩
end Go.Proofs.YtmkjalnlldpdcaaGreatDoor
