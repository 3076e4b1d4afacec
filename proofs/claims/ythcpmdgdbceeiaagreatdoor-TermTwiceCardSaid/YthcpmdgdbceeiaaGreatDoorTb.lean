/- Free, of the program, at the chapter's example: its state, its leaves. -/
import Derived.Test.YthcpmdgdbceeiaaGreatDoorTa
namespace Go.Proofs.YthcpmdgdbceeiaaGreatDoor
open Go.RowKit Go.Maps
/-- What the closure has: the free names, how often each name is bound, itself. -/
structure FreeSt (w : World) (base Bf Bb Bw Mf Mb nf nb : Nat) (fs : ByteArray → Bool) (cs : ByteArray → Int) : Prop where
  free : w.heap[Bf]? = some (.cells #[.map (some Mf)] 48 (0, 0))
  bound : w.heap[Bb]? = some (.cells #[.map (some Mb)] 52 (0, 0))
  walk : w.heap[Bw]? = some (.cells #[.func (.func 52) #[] #[.pointer (some ⟨Bb, 0, none⟩), .pointer (some ⟨Bf, 0, none⟩), .pointer (some ⟨Bw, 0, none⟩)]] 56 (0, 0))
  set : ∃ n, n ≤ nf ∧ SSet w Mf n fs
  count : ∃ n, n ≤ nb ∧ CMap w Mb n cs
  lo : base ≤ Bf ∧ base ≤ Bb ∧ base ≤ Bw ∧ base ≤ Mf ∧ base ≤ Mb ∧ Mf ≠ Mb
section
variable {w w' : World} {base Bf Bb Bw Mf Mb nf nb : Nat} {fs : ByteArray → Bool} {cs : ByteArray → Int}
theorem FreeSt.kept (h : FreeSt w base Bf Bb Bw Mf Mb nf nb fs cs) (hk : ∀ (g : Nat) (x : Obj), w.heap[g]? = some x → w'.heap[g]? = some x) : FreeSt w' base Bf Bb Bw Mf Mb nf nb fs cs := by
  obtain ⟨n, hn, hs⟩ := h.set
  obtain ⟨m, hm, hc⟩ := h.count
  exact ⟨hk _ _ h.free, hk _ _ h.bound, hk _ _ h.walk, ⟨n, hn, hs.kept fun x hx => hk _ x hx⟩, ⟨m, hm, hc.kept fun x hx => hk _ x hx⟩, h.lo⟩
theorem FreeSt.below (h : FreeSt w base Bf Bb Bw Mf Mb nf nb fs cs) (hb : Below w.heap.size w w') : FreeSt w' base Bf Bb Bw Mf Mb nf nb fs cs := h.kept fun _ _ hx => hb_below hx hb (hb_lt hx)
theorem map_ne {g M : Nat} {cs : Array Value} {t : TypeId} {es : Array MapEntry} {cl : Nat} (hM : w.heap[M]? = some (.map es cl)) (hx : w.heap[g]? = some (.cells cs t (0, 0))) : some g ≠ some M := fun e => by
  rw [Option.some.inj e, hM] at hx; cases hx
theorem FreeSt.turnF (h : FreeSt w base Bf Bb Bw Mf Mb nf nb fs cs) (ht : w.mapTurned w' Mf) {n nf' : Nat} {fs' : ByteArray → Bool} (hn : n ≤ nf') (hs : SSet w' Mf n fs') : FreeSt w' base Bf Bb Bw Mf Mb nf' nb fs' cs := by
  obtain ⟨_, _, hs0⟩ := h.set
  obtain ⟨es, cl, hM⟩ := hs0.heap
  obtain ⟨m, hm, hc⟩ := h.count
  have hg := ht.grown
  exact ⟨hb_grown h.free hg (map_ne hM h.free), hb_grown h.bound hg (map_ne hM h.bound), hb_grown h.walk hg (map_ne hM h.walk), ⟨n, hn, hs⟩, ⟨m, hm, hc.kept fun x hx => hb_grown hx hg (fun e => h.lo.2.2.2.2.2 (Option.some.inj e).symm)⟩, h.lo⟩
theorem FreeSt.turnB (h : FreeSt w base Bf Bb Bw Mf Mb nf nb fs cs) (ht : w.mapTurned w' Mb) {n nb' : Nat} {cs' : ByteArray → Int} (hn : n ≤ nb') (hc : CMap w' Mb n cs') : FreeSt w' base Bf Bb Bw Mf Mb nf nb' fs cs' := by
  obtain ⟨_, _, hc0⟩ := h.count
  obtain ⟨es, cl, hM⟩ := hc0.heap
  obtain ⟨m, hm, hs⟩ := h.set
  have hg := ht.grown
  exact ⟨hb_grown h.free hg (map_ne hM h.free), hb_grown h.bound hg (map_ne hM h.bound), hb_grown h.walk hg (map_ne hM h.walk), ⟨m, hm, hs.kept fun x hx => hb_grown hx hg (fun e => h.lo.2.2.2.2.2 (Option.some.inj e))⟩, ⟨n, hn, hc⟩, h.lo⟩
end
/-- All that was there is as it was, but for two maps. -/
def Kept2 (w w' : World) (Mf Mb : Nat) : Prop := ∀ (g : Nat) (x : Obj), w.heap[g]? = some x → g ≠ Mf → g ≠ Mb → w'.heap[g]? = some x
theorem Kept2.trans {a b c : World} {Mf Mb : Nat} (h : Kept2 a b Mf Mb) (h2 : Kept2 b c Mf Mb) : Kept2 a c Mf Mb := fun g x hx h3 h4 => h2 g x (h g x hx h3 h4) h3 h4
theorem Kept2.below {a b : World} {Mf Mb : Nat} (h : Below a.heap.size a b) : Kept2 a b Mf Mb := fun _ _ hx _ _ => hb_below hx h (hb_lt hx)
theorem Kept2.turnF {a b : World} {Mf Mb : Nat} (h : a.mapTurned b Mf) : Kept2 a b Mf Mb := fun _ _ hx h3 _ => hb_grown hx h.grown (fun e => h3 (Option.some.inj e))
theorem Kept2.turnB {a b : World} {Mf Mb : Nat} (h : a.mapTurned b Mb) : Kept2 a b Mf Mb := fun _ _ hx _ h4 => hb_grown hx h.grown (fun e => h4 (Option.some.inj e))
/-- What a walk over a term leaves. -/
def FreeR (w0 w : World) (Bf Bb Bw Mf Mb nf nb : Nat) (fs : ByteArray → Bool) (cs : ByteArray → Int) (e : Ending) (w' : World) : Prop := e = .returned (.tuple #[]) ∧ FreeSt w' w0.heap.size Bf Bb Bw Mf Mb nf nb fs cs ∧ Below w0.heap.size w0 w' ∧ Kept2 w w' Mf Mb
set_option maxRecDepth 100000 in
set_option maxHeartbeats 1000000 in
/-- A name that is bound around. -/
theorem free_var1 (w0 : World) (Bf Bb Bw Mf Mb nf nb : Nat) (n : ByteArray) (hn : n.size ≤ 1000) (q : Option Addr) (c : Nat) (fs : ByteArray → Bool) (cs : ByteArray → Int) (w : World) (hS : FreeSt w w0.heap.size Bf Bb Bw Mf Mb nf nb fs cs) (hB : Below w0.heap.size w0 w) (hc : cs n = 1) :
    Calls Tryz.prog 52 #[tv 21 ⟨#[]⟩ n 0 (.slice q 0 c), .pointer (some ⟨Bb, 0, none⟩), .pointer (some ⟨Bf, 0, none⟩), .pointer (some ⟨Bw, 0, none⟩)] w (FreeR w0 w Bf Bb Bw Mf Mb nf nb fs cs) := by
  have hSa := hS.below (below_alloc w (.cells #[.int .i64 21, .string ⟨#[]⟩, .string n, .int .i64 0, .slice q 0 c] 24))
  have hlook : (Instr.lookup 52 (.map (some Mb)) (.string n) false).run Tryz.prog (w.alloc (.cells #[.int .i64 21, .string ⟨#[]⟩, .string n, .int .i64 0, .slice q 0 c] 24)) = .ok (.int .i64 1) (w.alloc (.cells #[.int .i64 21, .string ⟨#[]⟩, .string n, .int .i64 0, .slice q 0 c] 24)) := by
    obtain ⟨m, _, hcm⟩ := hSa.count
    have h := hcm.look n (by unfold maxLen; omega)
    rwa [hc] at h
  have m0 : w.cell? ⟨Bb, 0, none⟩ = some (.map (some Mb)) := hb_at hS.bound 0 rfl
  have hbb : Bb < w.heap.size := hb_lt hS.bound
  have HSA := Lib.hid hSa
  have HBA := Lib.hid (hB.alloc hB.size (.cells #[.int .i64 21, .string ⟨#[]⟩, .string n, .int .i64 0, .slice q 0 c] 24))
  clear hSa hS hB hc
  go_enter Tryz.func52, Tryz.ntmps52
  go_wp2
  go_loopw [34] (fun i wr => i = .int .i64 0 ∧ wr = w.alloc (.cells #[.int .i64 21, .string ⟨#[]⟩, .string n, .int .i64 0, .slice q 0 c] 24)) (fun _ _ => 0)
  case atStart => exact ⟨rfl, rfl⟩
  case round =>
    obtain ⟨rfl, rfl⟩ := hrel
    go_wp2
    go_end0
    exact ⟨rfl, HSA.out, HBA.out, Kept2.below (below_alloc w _)⟩
set_option maxRecDepth 100000 in
set_option maxHeartbeats 1000000 in
/-- A name that is not bound. -/
theorem free_var0 (w0 : World) (Bf Bb Bw Mf Mb nf nb : Nat) (n : ByteArray) (hn : n.size ≤ 1000) (q : Option Addr) (c : Nat) (fs : ByteArray → Bool) (cs : ByteArray → Int) (w : World) (hS : FreeSt w w0.heap.size Bf Bb Bw Mf Mb nf nb fs cs) (hB : Below w0.heap.size w0 w) (hc : cs n = 0) (hroom : nf ≤ 1000) :
    Calls Tryz.prog 52 #[tv 21 ⟨#[]⟩ n 0 (.slice q 0 c), .pointer (some ⟨Bb, 0, none⟩), .pointer (some ⟨Bf, 0, none⟩), .pointer (some ⟨Bw, 0, none⟩)] w (FreeR w0 w Bf Bb Bw Mf Mb (nf + 1) nb (fun t => decide (t = n) || fs t) cs) := by
  have hSa := hS.below (below_alloc w (.cells #[.int .i64 21, .string ⟨#[]⟩, .string n, .int .i64 0, .slice q 0 c] 24))
  have hlook : (Instr.lookup 52 (.map (some Mb)) (.string n) false).run Tryz.prog (w.alloc (.cells #[.int .i64 21, .string ⟨#[]⟩, .string n, .int .i64 0, .slice q 0 c] 24)) = .ok (.int .i64 0) (w.alloc (.cells #[.int .i64 21, .string ⟨#[]⟩, .string n, .int .i64 0, .slice q 0 c] 24)) := by
    obtain ⟨m, _, hcm⟩ := hSa.count
    have h := hcm.look n (by unfold maxLen; omega)
    rwa [hc] at h
  have m0 : w.cell? ⟨Bb, 0, none⟩ = some (.map (some Mb)) := hb_at hS.bound 0 rfl
  have m1 : w.cell? ⟨Bf, 0, none⟩ = some (.map (some Mf)) := hb_at hS.free 0 rfl
  have hbb : Bb < w.heap.size := hb_lt hS.bound
  have hbf : Bf < w.heap.size := hb_lt hS.free
  obtain ⟨m, hm, hset⟩ := hS.set
  have hseta := hset.kept (w' := w.alloc (.cells #[.int .i64 21, .string ⟨#[]⟩, .string n, .int .i64 0, .slice q 0 c] 24)) fun x hx => hb_alloc hx _
  have HSET := Lib.hid hseta
  have HSA := Lib.hid hSa
  have HBA := Lib.hid (hB.alloc hB.size (.cells #[.int .i64 21, .string ⟨#[]⟩, .string n, .int .i64 0, .slice q 0 c] 24))
  have HK := Lib.hid (hb_new w (.cells #[.int .i64 21, .string ⟨#[]⟩, .string n, .int .i64 0, .slice q 0 c] 24))
  have HLO := Lib.hid hS.lo
  have hne : some w.heap.size ≠ some Mf := fun e => by have h := hset.lt; have := Option.some.inj e; omega
  have HNE := Lib.hid hne
  clear hSa hS hB hc hset hseta hne
  go_enter Tryz.func52, Tryz.ntmps52
  go_wp2_with (at_mapUpdate; refine wpList_ss_put _ rfl _ _ _ rfl rfl HSET.out (by unfold maxLen; omega) n rfl (by unfold maxLen; omega) rfl ?_; intro w1 hset1 hturn1; have HSET1 := Lib.hid hset1; have HT1 := Lib.hid hturn1; have q4 : w1.cell? ⟨w.heap.size, 4, none⟩ = some (.slice q 0 c) := hb_at (hb_grown HK.out hturn1.grown HNE.out) 4 rfl; clear hset1 hturn1)
  go_loopw [34] (fun i wr => i = .int .i64 0 ∧ wr = w1) (fun _ _ => 0)
  case atStart => exact ⟨rfl, rfl⟩
  case round =>
    obtain ⟨rfl, rfl⟩ := hrel
    go_wp2
    go_end0
    exact ⟨rfl, HSA.out.turnF HT1.out (by omega) HSET1.out, turned_below HBA.out (Nat.le_refl _) HT1.out HLO.out.2.2.2.1, (Kept2.below (below_alloc w _)).trans (Kept2.turnF HT1.out)⟩
/-- What a term binds in a Kid: an application nothing. -/
theorem binds_app (p n : ByteArray) (N i : Int) (q : Option Addr) (l c : Nat) (w : World) : Calls Tryz.prog 54 #[tv 27 p n N (.slice q l c), .int .i64 i] w fun e w' => e = .returned (.slice none 0 0) ∧ Below w.heap.size w w' := by
  go_enter Tryz.func54, Tryz.ntmps54
  go_wp2
  go_ret
  exact ⟨rfl, below_alloc w _⟩
def BindsF (n : ByteArray) (w : World) (e : Ending) (w' : World) : Prop := ∃ g, e = .returned (.slice (some ⟨g, 0, none⟩) 1 1) ∧ w'.heap[g]? = some (.cells #[.string n] 9 (0, 0)) ∧ w.heap.size ≤ g ∧ Below w.heap.size w w'
theorem binds_fun (p n : ByteArray) (N i : Int) (q : Option Addr) (l c : Nat) (w : World) : Calls Tryz.prog 54 #[tv 26 p n N (.slice q l c), .int .i64 i] w (BindsF n w) := by
  have k := hb_new (w.alloc (.cells #[.int .i64 26, .string p, .string n, .int .i64 N, .slice q l c] 24)) (.cells #[.string n] 9)
  rw [World.size_alloc] at k
  have HK := Lib.hid k
  clear k
  go_enter Tryz.func54, Tryz.ntmps54
  go_wp2
  go_ret
  exact ⟨_, rfl, HK.out, by omega, below2 w _ _⟩
end Go.Proofs.YthcpmdgdbceeiaaGreatDoor
