/- Texts in a row: Tb Tc Td. -/
import Derived.Test.YthcpmdgdbceeiaaGreatDoorZ4
/- Free, of the program, at the chapter's example: its state, its leaves. -/
namespace Go.Proofs.YthcpmdgdbceeiaaGreatDoor
open Go.RowKit Go.Maps
/-- What the closure has: the free names, how often each name is bound, itself. -/
structure FreeSt (w : World) (base Bf Bb Bw Mf Mb nf nb : Nat) (fs : ByteArray → Bool) (cs : ByteArray → Int) : Prop where
  free : w.heap[Bf]? = some (.cells #[.map (some Mf)] 48 (0, 0))
  bound : w.heap[Bb]? = some (.cells #[.map (some Mb)] 52 (0, 0))
  walk : w.heap[Bw]? = some (.cells #[.func (.func 52) #[] #[.pointer (some ⟨Bb, 0, none⟩), .pointer (some ⟨Bf, 0, none⟩), .pointer (some ⟨Bw, 0, none⟩)]] 56 (0, 0))
  set : ∃ n, n ≤ nf ∧ SSet w Mf n fs
  count : ∃ n, n ≤ nb ∧ CMap w Mb n cs
  lo : base ≤ Bf ∧ base ≤ Bb ∧ base ≤ Bw ∧ base ≤ Mf ∧ base ≤ Mb ∧ Mf ≠ Mb
section
variable {w w' : World} {base Bf Bb Bw Mf Mb nf nb : Nat} {fs : ByteArray → Bool} {cs : ByteArray → Int}
theorem FreeSt.kept (h : FreeSt w base Bf Bb Bw Mf Mb nf nb fs cs) (hk : ∀ (g : Nat) (x : Obj), w.heap[g]? = some x → w'.heap[g]? = some x) : FreeSt w' base Bf Bb Bw Mf Mb nf nb fs cs := by
  obtain ⟨n, hn, hs⟩ := h.set
  obtain ⟨m, hm, hc⟩ := h.count
  exact ⟨hk _ _ h.free, hk _ _ h.bound, hk _ _ h.walk, ⟨n, hn, hs.kept fun x hx => hk _ x hx⟩, ⟨m, hm, hc.kept fun x hx => hk _ x hx⟩, h.lo⟩
theorem FreeSt.below (h : FreeSt w base Bf Bb Bw Mf Mb nf nb fs cs) (hb : Below w.heap.size w w') : FreeSt w' base Bf Bb Bw Mf Mb nf nb fs cs := h.kept fun _ _ hx => hb_below hx hb (hb_lt hx)
theorem map_ne {g M : Nat} {cs : Array Value} {t : TypeId} {es : Array MapEntry} {cl : Nat} (hM : w.heap[M]? = some (.map es cl)) (hx : w.heap[g]? = some (.cells cs t (0, 0))) : some g ≠ some M := fun e => by
  rw [Option.some.inj e, hM] at hx; cases hx
theorem FreeSt.turnF (h : FreeSt w base Bf Bb Bw Mf Mb nf nb fs cs) (ht : w.mapTurned w' Mf) {n nf' : Nat} {fs' : ByteArray → Bool} (hn : n ≤ nf') (hs : SSet w' Mf n fs') : FreeSt w' base Bf Bb Bw Mf Mb nf' nb fs' cs := by
  obtain ⟨_, _, hs0⟩ := h.set
  obtain ⟨es, cl, hM⟩ := hs0.heap
  obtain ⟨m, hm, hc⟩ := h.count
  have hg := ht.grown
  exact ⟨hb_grown h.free hg (map_ne hM h.free), hb_grown h.bound hg (map_ne hM h.bound), hb_grown h.walk hg (map_ne hM h.walk), ⟨n, hn, hs⟩, ⟨m, hm, hc.kept fun x hx => hb_grown hx hg (fun e => h.lo.2.2.2.2.2 (Option.some.inj e).symm)⟩, h.lo⟩
theorem FreeSt.turnB (h : FreeSt w base Bf Bb Bw Mf Mb nf nb fs cs) (ht : w.mapTurned w' Mb) {n nb' : Nat} {cs' : ByteArray → Int} (hn : n ≤ nb') (hc : CMap w' Mb n cs') : FreeSt w' base Bf Bb Bw Mf Mb nf nb' fs cs' := by
  obtain ⟨_, _, hc0⟩ := h.count
  obtain ⟨es, cl, hM⟩ := hc0.heap
  obtain ⟨m, hm, hs⟩ := h.set
  have hg := ht.grown
  exact ⟨hb_grown h.free hg (map_ne hM h.free), hb_grown h.bound hg (map_ne hM h.bound), hb_grown h.walk hg (map_ne hM h.walk), ⟨m, hm, hs.kept fun x hx => hb_grown hx hg (fun e => h.lo.2.2.2.2.2 (Option.some.inj e))⟩, ⟨n, hn, hc⟩, h.lo⟩
end
/-- All that was there is as it was, but for two maps. -/
def Kept2 (w w' : World) (Mf Mb : Nat) : Prop := ∀ (g : Nat) (x : Obj), w.heap[g]? = some x → g ≠ Mf → g ≠ Mb → w'.heap[g]? = some x
theorem Kept2.trans {a b c : World} {Mf Mb : Nat} (h : Kept2 a b Mf Mb) (h2 : Kept2 b c Mf Mb) : Kept2 a c Mf Mb := fun g x hx h3 h4 => h2 g x (h g x hx h3 h4) h3 h4
theorem Kept2.below {a b : World} {Mf Mb : Nat} (h : Below a.heap.size a b) : Kept2 a b Mf Mb := fun _ _ hx _ _ => hb_below hx h (hb_lt hx)
theorem Kept2.turnF {a b : World} {Mf Mb : Nat} (h : a.mapTurned b Mf) : Kept2 a b Mf Mb := fun _ _ hx h3 _ => hb_grown hx h.grown (fun e => h3 (Option.some.inj e))
theorem Kept2.turnB {a b : World} {Mf Mb : Nat} (h : a.mapTurned b Mb) : Kept2 a b Mf Mb := fun _ _ hx _ h4 => hb_grown hx h.grown (fun e => h4 (Option.some.inj e))
/-- What a walk over a term leaves. -/
def FreeR (w0 w : World) (Bf Bb Bw Mf Mb nf nb : Nat) (fs : ByteArray → Bool) (cs : ByteArray → Int) (e : Ending) (w' : World) : Prop := e = .returned (.tuple #[]) ∧ FreeSt w' w0.heap.size Bf Bb Bw Mf Mb nf nb fs cs ∧ Below w0.heap.size w0 w' ∧ Kept2 w w' Mf Mb
set_option maxRecDepth 100000 in
set_option maxHeartbeats 1000000 in
/-- A name that is bound around. -/
theorem free_var1 (w0 : World) (Bf Bb Bw Mf Mb nf nb : Nat) (n : ByteArray) (hn : n.size ≤ 1000) (q : Option Addr) (c : Nat) (fs : ByteArray → Bool) (cs : ByteArray → Int) (w : World) (hS : FreeSt w w0.heap.size Bf Bb Bw Mf Mb nf nb fs cs) (hB : Below w0.heap.size w0 w) (hc : cs n = 1) :
    Calls Tryz.prog 52 #[tv 21 ⟨#[]⟩ n 0 (.slice q 0 c), .pointer (some ⟨Bb, 0, none⟩), .pointer (some ⟨Bf, 0, none⟩), .pointer (some ⟨Bw, 0, none⟩)] w (FreeR w0 w Bf Bb Bw Mf Mb nf nb fs cs) := by
  have hSa := hS.below (below_alloc w (.cells #[.int .i64 21, .string ⟨#[]⟩, .string n, .int .i64 0, .slice q 0 c] 24))
  have hlook : (Instr.lookup 52 (.map (some Mb)) (.string n) false).run Tryz.prog (w.alloc (.cells #[.int .i64 21, .string ⟨#[]⟩, .string n, .int .i64 0, .slice q 0 c] 24)) = .ok (.int .i64 1) (w.alloc (.cells #[.int .i64 21, .string ⟨#[]⟩, .string n, .int .i64 0, .slice q 0 c] 24)) := by
    obtain ⟨m, _, hcm⟩ := hSa.count
    have h := hcm.look n (by unfold maxLen; omega)
    rwa [hc] at h
  have m0 : w.cell? ⟨Bb, 0, none⟩ = some (.map (some Mb)) := hb_at hS.bound 0 rfl
  have hbb : Bb < w.heap.size := hb_lt hS.bound
  have HSA := Lib.hid hSa
  have HBA := Lib.hid (hB.alloc hB.size (.cells #[.int .i64 21, .string ⟨#[]⟩, .string n, .int .i64 0, .slice q 0 c] 24))
  clear hSa hS hB hc
  go_enter Tryz.func52, Tryz.ntmps52
  go_wp2
  go_loopw [34] (fun i wr => i = .int .i64 0 ∧ wr = w.alloc (.cells #[.int .i64 21, .string ⟨#[]⟩, .string n, .int .i64 0, .slice q 0 c] 24)) (fun _ _ => 0)
  case atStart => exact ⟨rfl, rfl⟩
  case round =>
    obtain ⟨rfl, rfl⟩ := hrel
    go_wp2
    go_end0
    exact ⟨rfl, HSA.out, HBA.out, Kept2.below (below_alloc w _)⟩
set_option maxRecDepth 100000 in
set_option maxHeartbeats 1000000 in
/-- A name that is not bound. -/
theorem free_var0 (w0 : World) (Bf Bb Bw Mf Mb nf nb : Nat) (n : ByteArray) (hn : n.size ≤ 1000) (q : Option Addr) (c : Nat) (fs : ByteArray → Bool) (cs : ByteArray → Int) (w : World) (hS : FreeSt w w0.heap.size Bf Bb Bw Mf Mb nf nb fs cs) (hB : Below w0.heap.size w0 w) (hc : cs n = 0) (hroom : nf ≤ 1000) :
    Calls Tryz.prog 52 #[tv 21 ⟨#[]⟩ n 0 (.slice q 0 c), .pointer (some ⟨Bb, 0, none⟩), .pointer (some ⟨Bf, 0, none⟩), .pointer (some ⟨Bw, 0, none⟩)] w (FreeR w0 w Bf Bb Bw Mf Mb (nf + 1) nb (fun t => decide (t = n) || fs t) cs) := by
  have hSa := hS.below (below_alloc w (.cells #[.int .i64 21, .string ⟨#[]⟩, .string n, .int .i64 0, .slice q 0 c] 24))
  have hlook : (Instr.lookup 52 (.map (some Mb)) (.string n) false).run Tryz.prog (w.alloc (.cells #[.int .i64 21, .string ⟨#[]⟩, .string n, .int .i64 0, .slice q 0 c] 24)) = .ok (.int .i64 0) (w.alloc (.cells #[.int .i64 21, .string ⟨#[]⟩, .string n, .int .i64 0, .slice q 0 c] 24)) := by
    obtain ⟨m, _, hcm⟩ := hSa.count
    have h := hcm.look n (by unfold maxLen; omega)
    rwa [hc] at h
  have m0 : w.cell? ⟨Bb, 0, none⟩ = some (.map (some Mb)) := hb_at hS.bound 0 rfl
  have m1 : w.cell? ⟨Bf, 0, none⟩ = some (.map (some Mf)) := hb_at hS.free 0 rfl
  have hbb : Bb < w.heap.size := hb_lt hS.bound
  have hbf : Bf < w.heap.size := hb_lt hS.free
  obtain ⟨m, hm, hset⟩ := hS.set
  have hseta := hset.kept (w' := w.alloc (.cells #[.int .i64 21, .string ⟨#[]⟩, .string n, .int .i64 0, .slice q 0 c] 24)) fun x hx => hb_alloc hx _
  have HSET := Lib.hid hseta
  have HSA := Lib.hid hSa
  have HBA := Lib.hid (hB.alloc hB.size (.cells #[.int .i64 21, .string ⟨#[]⟩, .string n, .int .i64 0, .slice q 0 c] 24))
  have HK := Lib.hid (hb_new w (.cells #[.int .i64 21, .string ⟨#[]⟩, .string n, .int .i64 0, .slice q 0 c] 24))
  have HLO := Lib.hid hS.lo
  have hne : some w.heap.size ≠ some Mf := fun e => by have h := hset.lt; have := Option.some.inj e; omega
  have HNE := Lib.hid hne
  clear hSa hS hB hc hset hseta hne
  go_enter Tryz.func52, Tryz.ntmps52
  go_wp2_with (at_mapUpdate; refine wpList_ss_put _ rfl _ _ _ rfl rfl HSET.out (by unfold maxLen; omega) n rfl (by unfold maxLen; omega) rfl ?_; intro w1 hset1 hturn1; have HSET1 := Lib.hid hset1; have HT1 := Lib.hid hturn1; have q4 : w1.cell? ⟨w.heap.size, 4, none⟩ = some (.slice q 0 c) := hb_at (hb_grown HK.out hturn1.grown HNE.out) 4 rfl; clear hset1 hturn1)
  go_loopw [34] (fun i wr => i = .int .i64 0 ∧ wr = w1) (fun _ _ => 0)
  case atStart => exact ⟨rfl, rfl⟩
  case round =>
    obtain ⟨rfl, rfl⟩ := hrel
    go_wp2
    go_end0
    exact ⟨rfl, HSA.out.turnF HT1.out (by omega) HSET1.out, turned_below HBA.out (Nat.le_refl _) HT1.out HLO.out.2.2.2.1, (Kept2.below (below_alloc w _)).trans (Kept2.turnF HT1.out)⟩
/-- What a term binds in a Kid: an application nothing. -/
theorem binds_app (p n : ByteArray) (N i : Int) (q : Option Addr) (l c : Nat) (w : World) : Calls Tryz.prog 54 #[tv 27 p n N (.slice q l c), .int .i64 i] w fun e w' => e = .returned (.slice none 0 0) ∧ Below w.heap.size w w' := by
  go_enter Tryz.func54, Tryz.ntmps54
  go_wp2
  go_ret
  exact ⟨rfl, below_alloc w _⟩
def BindsF (n : ByteArray) (w : World) (e : Ending) (w' : World) : Prop := ∃ g, e = .returned (.slice (some ⟨g, 0, none⟩) 1 1) ∧ w'.heap[g]? = some (.cells #[.string n] 9 (0, 0)) ∧ w.heap.size ≤ g ∧ Below w.heap.size w w'
theorem binds_fun (p n : ByteArray) (N i : Int) (q : Option Addr) (l c : Nat) (w : World) : Calls Tryz.prog 54 #[tv 26 p n N (.slice q l c), .int .i64 i] w (BindsF n w) := by
  have k := hb_new (w.alloc (.cells #[.int .i64 26, .string p, .string n, .int .i64 N, .slice q l c] 24)) (.cells #[.string n] 9)
  rw [World.size_alloc] at k
  have HK := Lib.hid k
  clear k
  go_enter Tryz.func54, Tryz.ntmps54
  go_wp2
  go_ret
  exact ⟨_, rfl, HK.out, by omega, below2 w _ _⟩
end Go.Proofs.YthcpmdgdbceeiaaGreatDoor
/- Free, of the program, at the chapter's example: applications, functions. -/
namespace Go.Proofs.YthcpmdgdbceeiaaGreatDoor
open Go.RowKit Go.Maps
theorem IsT.eq {w : World} {d : Nat} {k : Int} {p n : ByteArray} {N : Int} {kids : List Tm} {v : Value} (h : IsT w d v (.mk k p n N kids)) : ∃ m s, d = m + 1 ∧ v = tv k p n N s ∧ KidsT w m s kids := by
  obtain ⟨m, k2, p2, n2, N2, s2, l2, e1, e2, e3, _, _, hk⟩ := h.open
  cases e2
  exact ⟨m, s2, e1, e3, hk⟩
set_option maxRecDepth 100000 in
set_option maxHeartbeats 2000000 in
/-- An application: each Kid in turn. -/
theorem free_app (w0 : World) (Bf Bb Bw Mf Mb nb d : Nat) (l : List Tm) (q : Option Addr) (c : Nat) (nf : Nat → Nat) (fs : Nat → ByteArray → Bool) (cs : ByteArray → Int) (w : World) (hk : KidsT w0 d (.slice q l.length c) l) (hS : FreeSt w w0.heap.size Bf Bb Bw Mf Mb (nf 0) nb (fs 0) cs) (hB : Below w0.heap.size w0 w)
    (hstep : ∀ (i : Nat) (x : Tm), l[i]? = some x → ∀ (v : Value) (W : World), IsT w0 d v x → FreeSt W w0.heap.size Bf Bb Bw Mf Mb (nf i) nb (fs i) cs → Below w0.heap.size w0 W → Calls Tryz.prog 52 #[v, .pointer (some ⟨Bb, 0, none⟩), .pointer (some ⟨Bf, 0, none⟩), .pointer (some ⟨Bw, 0, none⟩)] W (FreeR w0 W Bf Bb Bw Mf Mb (nf (i + 1)) nb (fs (i + 1)) cs)) :
    Calls Tryz.prog 52 #[tv 27 ⟨#[]⟩ ⟨#[]⟩ 0 (.slice q l.length c), .pointer (some ⟨Bb, 0, none⟩), .pointer (some ⟨Bf, 0, none⟩), .pointer (some ⟨Bw, 0, none⟩)] w (FreeR w0 w Bf Bb Bw Mf Mb (nf l.length) nb (fs l.length) cs) := by
  obtain ⟨q', c', e, hm, hr⟩ := hk
  cases e
  unfold maxLen at hm
  have HR := Lib.hid hr
  have HST := Lib.hid hstep
  have hSa := hS.below (below_alloc w (.cells #[.int .i64 27, .string ⟨#[]⟩, .string ⟨#[]⟩, .int .i64 0, .slice q l.length c] 24))
  have hBa := hB.alloc hB.size (.cells #[.int .i64 27, .string ⟨#[]⟩, .string ⟨#[]⟩, .int .i64 0, .slice q l.length c] 24)
  have HBX := Lib.hid (fun i W => binds_app ⟨#[]⟩ ⟨#[]⟩ 0 i q l.length c W)
  have HK := Lib.hid (hb_new w (.cells #[.int .i64 27, .string ⟨#[]⟩, .string ⟨#[]⟩, .int .i64 0, .slice q l.length c] 24))
  have HSA := Lib.hid hSa
  have HBA := Lib.hid hBa
  have hlo : w0.heap.size ≤ w.heap.size := hB.size
  clear hr hstep hSa hBa hS hB
  go_enter Tryz.func52, Tryz.ntmps52
  go_wp2
  generalize hW1 : w.alloc (.cells #[.int .i64 27, .string ⟨#[]⟩, .string ⟨#[]⟩, .int .i64 0, .slice q l.length c] 24) = W1 at *
  have hz1 : w.heap.size + 1 ≤ W1.heap.size := by rw [← hW1]; simp
  have hk1 : Kept2 w W1 Mf Mb := by rw [← hW1]; exact Kept2.below (below_alloc w _)
  have HK1 := Lib.hid hk1
  clear hk1
  clear hW1
  go_loopw [34] (fun i wr => ∃ k : Nat, k ≤ l.length ∧ i = .int .i64 k ∧ FreeSt wr w0.heap.size Bf Bb Bw Mf Mb (nf k) nb (fs k) cs ∧ Below w0.heap.size w0 wr ∧ wr.heap[w.heap.size]? = some (.cells #[.int .i64 27, .string ⟨#[]⟩, .string ⟨#[]⟩, .int .i64 0, .slice q l.length c] 24 (0, 0)) ∧ Kept2 W1 wr Mf Mb) (fun i _ => l.length - (intOf i).toNat)
  case atStart => exact ⟨0, Nat.zero_le _, rfl, HSA.out, HBA.out, HK.out, fun _ _ h _ _ => h⟩
  case round =>
    obtain ⟨k, hk, rfl, hS, hB, hbox, hkept⟩ := hrel
    have HKE := Lib.hid hkept
    clear hkept
    by_cases hlt : k < l.length
    · have hx1 := List.getElem?_eq_getElem hlt
      generalize l[k] = x at *
      obtain ⟨b1, o1, k1, p1, n1, N1, s1, hq1, ha1, ht1⟩ := HR.out k x hx1
      subst hq1
      obtain ⟨q3, l3, c3, hs3⟩ := ht1.spell
      subst hs3
      obtain ⟨x0, x1, x2, x3, x4⟩ := ha1.below hB ha1.lt
      have y0 := hb_at hbox 0 rfl
      have y1 := hb_at hbox 1 rfl
      have y2 := hb_at hbox 2 rfl
      have y3 := hb_at hbox 3 rfl
      have y4 := hb_at hbox 4 rfl
      have hwl := hb_lt hbox
      have m0 : wr.cell? ⟨Bw, 0, none⟩ = some (.func (.func 52) #[] #[.pointer (some ⟨Bb, 0, none⟩), .pointer (some ⟨Bf, 0, none⟩), .pointer (some ⟨Bw, 0, none⟩)]) := hb_at hS.walk 0 rfl
      have hbw : Bw < wr.heap.size := hb_lt hS.walk
      obtain ⟨wq, hwq⟩ : ∃ wq, wq = wr := ⟨_, rfl⟩
      subst hwq
      have HS := Lib.hid hS
      have HB := Lib.hid hB
      have HBOX := Lib.hid hbox
      have HX1 := Lib.hid hx1
      have HT1 := Lib.hid ht1
      clear hS hB hbox hx1 ht1 ha1
      go_wp2_with (go_at_call 54; ((with_reducible refine (HBX.out _ _).mono ?_); rintro e w2 ⟨rfl, hb⟩; have HB2 := Lib.hid hb; obtain ⟨hc2, hf2⟩ := bcell hb; have z2 := hb.size; rw [World.size_alloc] at z2; have y2 : wq.heap.size < w2.heap.size := (by omega); have hbw2 : Bw < w2.heap.size := (by omega); clear hb))
      have hBq : Below wq.heap.size wq w2 := (below_alloc wq (.cells #[.int .i64 k1, .string p1, .string n1, .int .i64 N1, .slice q3 l3 c3] 24)).trans (HB2.out.mono (by simp))
      have hB02 := HB.out.trans (hBq.mono HB.out.size)
      have HCK := Lib.hid (HST.out k x HX1.out (tv k1 p1 n1 N1 (.slice q3 l3 c3)) w2 HT1.out (HS.out.below hBq) hB02)
      have HBq := Lib.hid hBq
      clear hBq hB02
      go_loopw [51] (fun j wr => j = .int .i64 0 ∧ wr = w2) (fun _ _ => 0)
      case atStart => exact ⟨rfl, rfl⟩
      case round =>
        obtain ⟨rfl, rfl⟩ := hrel
        go_wp2_with (go_at_call 52; ((with_reducible refine HCK.out.mono ?_); rintro e w3 ⟨rfl, hS3, hB3, hK3⟩; have HS3 := Lib.hid hS3; have HB3 := Lib.hid hB3; have HK3 := Lib.hid hK3; clear hS3 hB3 hK3))
        have hneF : w.heap.size ≠ Mf := fun e => by
          obtain ⟨_, _, hs⟩ := HS.out.set
          obtain ⟨es, cl, hM⟩ := hs.heap
          exact map_ne hM HBOX.out (by rw [e])
        have hneB : w.heap.size ≠ Mb := fun e => by
          obtain ⟨_, _, hs⟩ := HS.out.count
          obtain ⟨es, cl, hM⟩ := hs.heap
          exact map_ne hM HBOX.out (by rw [e])
        have HBX3 := Lib.hid (HK3.out _ _ (hb_below HBOX.out HBq.out (hb_lt HBOX.out)) hneF hneB)
        have HKQ := Lib.hid ((HKE.out.trans (Kept2.below HBq.out)).trans HK3.out)
        clear hneF hneB
        go_loopw [65] (fun j wr => j = .int .i64 0 ∧ wr = w3) (fun _ _ => 0)
        case atStart => exact ⟨rfl, rfl⟩
        case round =>
          obtain ⟨rfl, rfl⟩ := hrel
          go_wp2
          go_roundw
          case rel => exact ⟨k + 1, by omega, by go_num, HS3.out, HB3.out, HBX3.out, HKQ.out⟩
          case measure => simp [intOf]; omega
    · obtain rfl : k = l.length := by omega
      have HS := Lib.hid hS
      have HB := Lib.hid hB
      clear hS hB hbox
      go_wp2
      go_end0
      exact ⟨rfl, HS.out, HB.out, HK1.out.trans HKE.out⟩
end Go.Proofs.YthcpmdgdbceeiaaGreatDoor
/- Free, of the program, at the chapter's example: a function. -/
namespace Go.Proofs.YthcpmdgdbceeiaaGreatDoor
open Go.RowKit Go.Maps
theorem FreeSt.neF {w : World} {base Bf Bb Bw Mf Mb nf nb : Nat} {fs : ByteArray → Bool} {cs : ByteArray → Int} (h : FreeSt w base Bf Bb Bw Mf Mb nf nb fs cs) {g : Nat} {c : Array Value} {t : TypeId} (hx : w.heap[g]? = some (.cells c t (0, 0))) : g ≠ Mf := fun e => by
  obtain ⟨_, _, hs⟩ := h.set
  obtain ⟨es, cl, hM⟩ := hs.heap
  exact map_ne hM hx (by rw [e])
theorem FreeSt.neB {w : World} {base Bf Bb Bw Mf Mb nf nb : Nat} {fs : ByteArray → Bool} {cs : ByteArray → Int} (h : FreeSt w base Bf Bb Bw Mf Mb nf nb fs cs) {g : Nat} {c : Array Value} {t : TypeId} (hx : w.heap[g]? = some (.cells c t (0, 0))) : g ≠ Mb := fun e => by
  obtain ⟨_, _, hs⟩ := h.count
  obtain ⟨es, cl, hM⟩ := hs.heap
  exact map_ne hM hx (by rw [e])
/-- What is left of a walk whose counts nobody asks for. -/
def FreeE (w0 w : World) (Bf Bb Bw Mf Mb nf : Nat) (fs : ByteArray → Bool) (w' : World) : Prop := ∃ nb cs, FreeSt w' w0.heap.size Bf Bb Bw Mf Mb nf nb fs cs ∧ Below w0.heap.size w0 w' ∧ Kept2 w w' Mf Mb
def FreeQ (w0 w : World) (Bf Bb Bw Mf Mb nf : Nat) (fs : ByteArray → Bool) (e : Ending) (w' : World) : Prop := e = .returned (.tuple #[]) ∧ FreeE w0 w Bf Bb Bw Mf Mb nf fs w'
def upC (cs : ByteArray → Int) (n : ByteArray) (x : Int) : ByteArray → Int := fun t => if t = n then x else cs t
theorem upC_same (cs : ByteArray → Int) (n : ByteArray) (x : Int) : upC cs n x n = x := if_pos rfl
set_option maxRecDepth 100000 in
set_option maxHeartbeats 4000000 in
/-- A function of one name. -/
theorem free_fun (w0 : World) (Bf Bb Bw Mf Mb nb d : Nat) (x : Tm) (n : ByteArray) (hn : n.size ≤ 1000) (q : Option Addr) (c : Nat) (nf nf' : Nat) (fs fs' : ByteArray → Bool) (cs : ByteArray → Int) (w : World) (hk : KidsT w0 d (.slice q 1 c) [x]) (hS : FreeSt w w0.heap.size Bf Bb Bw Mf Mb nf nb fs cs) (hB : Below w0.heap.size w0 w)
    (hc : cs n = 0) (hnb : nb ≤ 1000)
    (hstep : ∀ (v : Value) (W : World), IsT w0 d v x → FreeSt W w0.heap.size Bf Bb Bw Mf Mb nf (nb + 1) fs (upC cs n 1) → Below w0.heap.size w0 W → Calls Tryz.prog 52 #[v, .pointer (some ⟨Bb, 0, none⟩), .pointer (some ⟨Bf, 0, none⟩), .pointer (some ⟨Bw, 0, none⟩)] W (FreeR w0 W Bf Bb Bw Mf Mb nf' (nb + 1) fs' (upC cs n 1))) :
    Calls Tryz.prog 52 #[tv 26 ⟨#[]⟩ n 0 (.slice q 1 c), .pointer (some ⟨Bb, 0, none⟩), .pointer (some ⟨Bf, 0, none⟩), .pointer (some ⟨Bw, 0, none⟩)] w (FreeQ w0 w Bf Bb Bw Mf Mb nf' fs') := by
  obtain ⟨q', c', e, hm, hr⟩ := hk
  cases e
  obtain ⟨b1, o1, k1, p1, n1, N1, s1, hq1, ha1, ht1⟩ := hr 0 x rfl
  subst hq1
  obtain ⟨q3, l3, c3, hs3⟩ := ht1.spell
  subst hs3
  have HA1 := Lib.hid ha1
  have HT1 := Lib.hid ht1
  have HST := Lib.hid hstep
  have hSa := hS.below (below_alloc w (.cells #[.int .i64 26, .string ⟨#[]⟩, .string n, .int .i64 0, .slice (some ⟨b1, o1, none⟩) 1 c] 24))
  have hBa := hB.alloc hB.size (.cells #[.int .i64 26, .string ⟨#[]⟩, .string n, .int .i64 0, .slice (some ⟨b1, o1, none⟩) 1 c] 24)
  have HBX := Lib.hid (fun i W => binds_fun ⟨#[]⟩ n 0 i (some ⟨b1, o1, none⟩) 1 c W)
  have HK := Lib.hid (hb_new w (.cells #[.int .i64 26, .string ⟨#[]⟩, .string n, .int .i64 0, .slice (some ⟨b1, o1, none⟩) 1 c] 24))
  have HSA := Lib.hid hSa
  have HBA := Lib.hid hBa
  have HC0 := Lib.hid hc
  have hlo : w0.heap.size ≤ w.heap.size := hB.size
  clear hr hstep hSa hBa hS hB ha1 ht1 hc
  go_enter Tryz.func52, Tryz.ntmps52
  go_wp2
  generalize hW1 : w.alloc (.cells #[.int .i64 26, .string ⟨#[]⟩, .string n, .int .i64 0, .slice (some ⟨b1, o1, none⟩) 1 c] 24) = W1 at *
  have hz1 : w.heap.size + 1 ≤ W1.heap.size := by rw [← hW1]; simp
  have hk1 : Kept2 w W1 Mf Mb := by rw [← hW1]; exact Kept2.below (below_alloc w _)
  have HK1 := Lib.hid hk1
  clear hW1 hk1
  go_loopw [34] (fun i wr => (i = .int .i64 0 ∧ wr = W1) ∨ (i = .int .i64 1 ∧ FreeE w0 W1 Bf Bb Bw Mf Mb nf' fs' wr)) (fun i _ => 1 - (intOf i).toNat)
  case atStart => exact .inl ⟨rfl, rfl⟩
  case round =>
    rcases hrel with ⟨rfl, rfl⟩ | ⟨rfl, hE⟩
    · have hB := HBA.out
      have hbox := HK.out
      obtain ⟨x0, x1, x2, x3, x4⟩ := HA1.out.below hB HA1.out.lt
      have y0 := hb_at hbox 0 rfl
      have y1 := hb_at hbox 1 rfl
      have y2 := hb_at hbox 2 rfl
      have y3 := hb_at hbox 3 rfl
      have y4 := hb_at hbox 4 rfl
      have hwl := hb_lt hbox
      clear hB hbox
      simp only [Nat.zero_mul, Nat.add_zero] at x0 x1 x2 x3 x4
      obtain ⟨wq, hwq⟩ : ∃ wq, wq = wr := ⟨_, rfl⟩
      subst hwq
      go_wp2_with (go_at_call 54; ((with_reducible refine (HBX.out _ _).mono ?_); rintro e w2 ⟨g, rfl, hg, hgl, hb⟩; have HB2 := Lib.hid hb; have HG := Lib.hid hg; have z2 := hb.size; rw [World.size_alloc] at z2; rw [World.size_alloc] at hgl; clear hb hg))
      have hBq : Below wq.heap.size wq w2 := (below_alloc wq (.cells #[.int .i64 k1, .string p1, .string n1, .int .i64 N1, .slice q3 l3 c3] 24)).trans (HB2.out.mono (by simp))
      have hB02 := HBA.out.trans (hBq.mono HBA.out.size)
      have hS2 := HSA.out.below hBq
      have HS2 := Lib.hid hS2
      have HB02 := Lib.hid hB02
      have HLO := Lib.hid hS2.lo
      have HKQ : RowKit.Hid (Kept2 wq w2 Mf Mb) := Lib.hid (Kept2.below hBq)
      have HKB : RowKit.Hid (w2.heap[wq.heap.size]? = some (.cells #[.int .i64 k1, .string p1, .string n1, .int .i64 N1, .slice q3 l3 c3] 24 (0, 0))) := Lib.hid (hb_below (hb_new wq _) HB2.out (by simp))
      clear hBq hB02 hS2 x0 x1 x2 x3 x4 y0 y1 y2 y3 y4
      go_loopw [51] (fun j wr => (j = .int .i64 0 ∧ wr = w2) ∨ (j = .int .i64 1 ∧ FreeSt wr w0.heap.size Bf Bb Bw Mf Mb nf (nb + 1) fs (upC cs n 1) ∧ Below w0.heap.size w0 wr ∧ Kept2 w2 wr Mf Mb)) (fun j _ => 1 - (intOf j).toNat)
      case atStart => exact .inl ⟨rfl, rfl⟩
      case round =>
        rcases hrel with ⟨rfl, rfl⟩ | ⟨rfl, hS, hB, hK⟩
        · obtain ⟨m, hm2, hcm⟩ := HS2.out.count
          have g0 := hb_at HG.out 0 rfl
          have mb := hb_at HS2.out.bound 0 rfl
          have HCM := Lib.hid hcm
          clear hcm
          go_wp2_with (first
            | (at_lookup; refine wpList_cm_look _ rfl _ _ rfl rfl HCM.out n rfl (by unfold maxLen; omega) 0 HC0.out ?_)
            | (at_mapUpdate; refine wpList_cm_put _ rfl _ _ _ rfl rfl HCM.out (by unfold maxLen; omega) n rfl (by unfold maxLen; omega) 1 (by decide) rfl ?_; intro w3 hcm3 hturn3; have HCM3 := Lib.hid hcm3; have HT3 := Lib.hid hturn3; clear hcm3 hturn3))
          go_roundw
          case rel => exact .inr ⟨by go_num, HS2.out.turnB HT3.out (by omega) HCM3.out, turned_below HB02.out (Nat.le_refl _) HT3.out HLO.out.2.2.2.2.1, Kept2.turnB HT3.out⟩
          case measure => simp [intOf]
        · have HS := Lib.hid hS
          have HB := Lib.hid hB
          have HKE := Lib.hid hK
          have hkb := hK _ _ HKB.out (HS2.out.neF HKB.out) (HS2.out.neB HKB.out)
          have b0 := hb_at hkb 0 rfl
          have b1 := hb_at hkb 1 rfl
          have b2 := hb_at hkb 2 rfl
          have b3 := hb_at hkb 3 rfl
          have b4 := hb_at hkb 4 rfl
          have m0 := hb_at hS.walk 0 rfl
          have HCK := Lib.hid (HST.out (tv k1 p1 n1 N1 (.slice q3 l3 c3)) _ HT1.out hS hB)
          have HG3 := Lib.hid (hK _ _ HG.out (HS2.out.neF HG.out) (HS2.out.neB HG.out))
          clear hS hB hK hkb
          obtain ⟨wy, hwy⟩ : ∃ wy, wy = wr := ⟨_, rfl⟩
          subst hwy
          go_wp2_with (go_at_call 52; ((with_reducible refine HCK.out.mono ?_); rintro e w4 ⟨rfl, hS4, hB4, hK4⟩; have HS4 := Lib.hid hS4; have HB4 := Lib.hid hB4; have HK4 := Lib.hid hK4; clear hS4 hB4 hK4))
          have HG4 := Lib.hid (HK4.out _ _ HG3.out (HS.out.neF HG3.out) (HS.out.neB HG3.out))
          go_loopw [65] (fun j wr => (j = .int .i64 0 ∧ wr = w4) ∨ (j = .int .i64 1 ∧ FreeE w0 w4 Bf Bb Bw Mf Mb nf' fs' wr)) (fun j _ => 1 - (intOf j).toNat)
          case atStart => exact .inl ⟨rfl, rfl⟩
          case round =>
            rcases hrel with ⟨rfl, rfl⟩ | ⟨rfl, hE⟩
            · obtain ⟨m, hm2, hcm⟩ := HS4.out.count
              have g0 := hb_at HG4.out 0 rfl
              have mb := hb_at HS4.out.bound 0 rfl
              have HCM := Lib.hid hcm
              clear hcm
              go_wp2_with (first
                | (at_lookup; refine wpList_cm_look _ rfl _ _ rfl rfl HCM.out n rfl (by unfold maxLen; omega) 1 (upC_same _ _ _) ?_)
                | (at_mapUpdate; refine wpList_cm_put _ rfl _ _ _ rfl rfl HCM.out (by unfold maxLen; omega) n rfl (by unfold maxLen; omega) 0 (by decide) rfl ?_; intro w5 hcm5 hturn5; have HCM5 := Lib.hid hcm5; have HT5 := Lib.hid hturn5; have HS5 := Lib.hid (HS4.out.turnB hturn5 (Nat.le_refl _) hcm5); have mb5 := hb_at HS5.out.bound 0 rfl; clear hcm5 hturn5)
                | (at_lookup; refine wpList_cm_look _ rfl _ _ rfl rfl HCM5.out n rfl (by unfold maxLen; omega) 0 (if_pos rfl) ?_)
                | (at_delete; refine wpList_cm_del _ rfl _ _ rfl rfl HCM5.out n rfl (by unfold maxLen; omega) ?_; intro w6 hcm6 hturn6; have HCM6 := Lib.hid hcm6; have HT6 := Lib.hid hturn6; clear hcm6 hturn6))
              go_roundw
              case rel => exact .inr ⟨by go_num, _, _, HS5.out.turnB HT6.out (Nat.le_refl _) HCM6.out, turned_below (turned_below HB4.out (Nat.le_refl _) HT5.out HLO.out.2.2.2.2.1) (Nat.le_refl _) HT6.out HLO.out.2.2.2.2.1, (Kept2.turnB HT5.out).trans (Kept2.turnB HT6.out)⟩
              case measure => simp [intOf]
            · have HE := Lib.hid hE
              clear hE
              go_wp2
              go_roundw
              case rel =>
                obtain ⟨nb', cs', h1, h2, h3⟩ := HE.out
                exact .inr ⟨by go_num, nb', cs', h1, h2, ((HKQ.out.trans HKE.out).trans HK4.out).trans h3⟩
              case measure => simp [intOf]
    · have HE := Lib.hid hE
      clear hE
      go_wp2
      go_end0
      obtain ⟨nb', cs', h1, h2, h3⟩ := HE.out
      exact ⟨rfl, nb', cs', h1, h2, HK1.out.trans h3⟩
end Go.Proofs.YthcpmdgdbceeiaaGreatDoor
