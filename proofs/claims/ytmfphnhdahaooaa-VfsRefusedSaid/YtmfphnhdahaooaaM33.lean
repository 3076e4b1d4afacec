/- The texts Kv, Kw, Kx, Ky, La, Lb, Lc, Lg, one behind the other. -/
import Derived.Test.YtmfphnhdahaooaaM30
import Derived.Test.YtmfphnhdahaooaaM31
import Derived.Test.YtmfphnhdahaooaaM32
import Derived.Test.YtmfphnhdahaooaaM15
import Derived.Test.YtmfphnhdahaooaaM14
import Derived.Test.YtmfphnhdahaooaaM18
import Derived.Outline
import Derived.Test.YtmfphnhdahaooaaM26
import Derived.Test.YtmfphnhdahaooaaM27
set_option linter.unusedSimpArgs false
set_option linter.unusedVariables false
/- A call of both stores: what stands, and what it does. -/
namespace Go.Proofs.Ytmfphnhdahaooaa
open Go.RowKit Go.Maps
set_option linter.unusedSimpArgs false
set_option linter.unusedVariables false
theorem FilOk.base {w : World} {B B' X : Nat} {f : Fil} (h : FilOk w B X f) (hB : B' ≤ B) : FilOk w B' X f :=
  ⟨Nat.le_trans hB h.new, h.block, own_base h.now hB, own_base h.lasts hB, h.small, h.bytes⟩
theorem Raw.base {w : World} {B B' F N L n m : Nat} {A : Fs} {tv : Value} (h : Raw w B F A N L n m tv) (hB : B' ≤ B) : Raw w B' F A N L n m tv :=
  { h with row := own_base h.row hB, new := ⟨Nat.le_trans hB h.new.1, Nat.le_trans hB h.new.2.1, Nat.le_trans hB h.new.2.2⟩, files := fun X f hX => (h.files X f hX).base hB }
theorem Sto.base {w : World} {B B' F k : Nat} {A : Fs} (h : Sto w B F A k) (hB : B' ≤ B) : Sto w B' F A k := by
  obtain ⟨N, L, n, m, tv, h1, h2⟩ := h
  exact ⟨N, L, n, m, tv, h1.base hB, h2⟩
theorem ROk.up {w : World} {B B' r k k' : Nat} (h : ROk w B r k) (hB : B' ≤ B) (hk : k ≤ k') : ROk w B' r k' := by
  obtain ⟨cap, fv, dv, lv, tv, fs, ds, ls, ts, h⟩ := h
  obtain ⟨f1, f2, f3, f4⟩ := h.few
  exact ⟨cap, fv, dv, lv, tv, fs, ds, ls, ts, h.store, own_base h.files hB, own_base h.dir hB, own_base h.lasts hB, own_base h.turns hB, Nat.le_trans hB h.new, h.fit, h.small, ⟨by omega, by omega, by omega, by omega⟩⟩
theorem ROk.over {w w' : World} {B B2 r k : Nat} (h : ROk w B r k) (hf : Frm B2 w w') : ROk w' B r k := by
  obtain ⟨cap, fv, dv, lv, tv, fs, ds, ls, ts, h⟩ := h
  exact ⟨cap, fv, dv, lv, tv, fs, ds, ls, ts, h.over hf⟩
theorem RFrm.toBelow {B : Nat} {w w' : World} (h : RFrm B w w') : Below B w w' := ⟨h.rest.1, h.rest.2.1, h.rest.2.2, h.size, h.below⟩
section
variable {w : World} {B F k : Nat} {A : Fs}
theorem Sto.lt (h : Sto w B F A k) : F < w.heap.size ∧ B ≤ F := by
  obtain ⟨N, L, n, m, tv, h1, h2⟩ := h
  exact ⟨hb_lt h1.store, h1.new.1⟩
theorem Sto.fsync (h : Sto w B F A k) (s : ByteArray) (hs : s.size ≤ maxLen) : Calls Try.prog 17 #[.pointer (some ⟨F, 0, none⟩), .string s] w (OpP B F A k (FsyncR s) w) := by
  have hl := h.lt
  obtain ⟨N, L, n, m, tv, h1, h2⟩ := h
  exact fsync_any h1 h2 (by omega) s hs
theorem Sto.trunc (h : Sto w B F A k) (hk : k ≤ 1000) (s : ByteArray) (hs : s.size ≤ maxLen) (j : Int) : Calls Try.prog 27 #[.pointer (some ⟨F, 0, none⟩), .string s, .int .i64 j] w (OpP B F A k (TruncR s j.toNat) w) := by
  obtain ⟨N, L, n, m, tv, h1, h2⟩ := h
  exact trunc_any h1 h2 hk s hs j
theorem Sto.remove (h : Sto w B F A k) (hk : k ≤ 1000) (s : ByteArray) (hs : s.size ≤ maxLen) : Calls Try.prog 29 #[.pointer (some ⟨F, 0, none⟩), .string s] w (OpP B F A k (TurnR s ⟨1, s, ⟨#[]⟩, none⟩) w) := by
  obtain ⟨N, L, n, m, tv, h1, h2⟩ := h
  exact remove_any h1 h2 hk s hs
theorem Sto.rename (h : Sto w B F A k) (hk : k ≤ 1000) (s d : ByteArray) (hs : s.size ≤ maxLen) (hd : d.size ≤ maxLen) : Calls Try.prog 28 #[.pointer (some ⟨F, 0, none⟩), .string s, .string d] w (OpP B F A k (RenR s d) w) := by
  obtain ⟨N, L, n, m, tv, h1, h2⟩ := h
  exact rename_any h1 h2 hk s d hs hd
theorem Sto.sync (h : Sto w B F A k) (hk : k ≤ 1000) : Calls Try.prog 18 #[.pointer (some ⟨F, 0, none⟩)] w (OpP B F A k SyncR w) := by
  obtain ⟨N, L, n, m, tv, h1, h2⟩ := h
  exact sync_any h1 h2 hk
theorem Sto.write (h : Sto w B F A k) (hk : k ≤ 1000) (s : ByteArray) (hs : s.size ≤ maxLen) (at_ : Int) {S : Nat} {news : List Value} (hS : w.heap[S]? = some (.cells news.toArray 5 (0, 0))) (hq : news.length ≤ 3000) (hone : OneB news) (hSn : ∀ X f, A.file X = some f → f.bv.ownBlock ≠ some S) :
    Calls Try.prog 25 #[.pointer (some ⟨F, 0, none⟩), .string s, .int .i64 at_, .slice (some ⟨S, 0, none⟩) news.length news.length] w (OpP B F A k (WroteR s at_.toNat news) w) := by
  obtain ⟨N, L, n, m, tv, h1, h2⟩ := h
  cases hd : A.dir s with
  | none => exact write_fresh h1 h2 hk s hs at_ news (0, 0) hS rfl hq hone hd
  | some X => exact write_there h1 h2 hk s hs at_ news (0, 0) hS rfl hq hone hSn hd
/-- A block made later is no file's. -/
theorem Sto.apart (h : Sto w B F A k) {g : Nat} (hg : w.heap.size ≤ g) : ∀ X f, A.file X = some f → f.bv.ownBlock ≠ some g := by
  obtain ⟨N, L, n, m, tv, h1, h2⟩ := h
  intro X f hf e
  have := own_lt (h1.files X f hf).now e
  omega
theorem Sto.fail (h : Sto w B F A k) (i : Int) (hi : i ≤ 9223372036854775807) : Calls Try.prog 30 #[.pointer (some ⟨F, 0, none⟩), .int .i64 i] w fun e w' => e = .returned (.tuple #[]) ∧ Sto w' B F { A with fail := i } k ∧ Frm B w w' := by
  obtain ⟨N, L, n, m, tv, h1, h2⟩ := h
  refine (fail_any h1 i hi).mono ?_
  rintro e w' ⟨rfl, hR, hg⟩
  exact ⟨rfl, ⟨N, L, n, m, tv, hR, h2⟩, raw_frm h1 hg⟩
theorem Sto.power (h : Sto w B F A k) (i : Int) (hi : i ≤ 9223372036854775807) : Calls Try.prog 31 #[.pointer (some ⟨F, 0, none⟩), .int .i64 i] w fun e w' => e = .returned (.tuple #[]) ∧ Sto w' B F { A with pow := i } k ∧ Frm B w w' := by
  obtain ⟨N, L, n, m, tv, h1, h2⟩ := h
  refine (power_any h1 i hi).mono ?_
  rintro e w' ⟨rfl, hR, hg⟩
  exact ⟨rfl, ⟨N, L, n, m, tv, hR, h2⟩, raw_frm h1 hg⟩
/-- What a crash in a play leaves. -/
def CrashS (B k : Nat) (A : Fs) (w : World) (e : Ending) (w' : World) : Prop := ∃ F2 A' gt gd j, e = .returned (.pointer (some ⟨F2, 0, none⟩)) ∧ Sto w' B F2 A' k ∧ Crashed gt gd A (fun _ => false) A' j ∧ A'.last = A'.dir ∧ Below w.heap.size w w'
theorem Sto.crash (h : Sto w B F A k) (hk : k ≤ 1000) {ao fo : Option Addr} {zs : List Int} {fl : List Sv} (c fc : Nat) (hz : RowI w ao zs) (hzl : zs.length ≤ 10000) (hf : RowS w fo fl) (hfl : fl.length ≤ 1000) :
    Calls Try.prog 20 #[.pointer (some ⟨F, 0, none⟩), .slice ao zs.length c, .slice fo fl.length fc] w (CrashS B k A w) := by
  have hB : B ≤ w.heap.size := by have := h.lt; omega
  obtain ⟨N, L, n, m, tv, h1, h2⟩ := h
  refine (crash_any (c := c) (fc := fc) h1 (by omega) hz hzl hf hfl).mono ?_
  intro e w' hc
  obtain ⟨B2, F2, A', j, he, hB2, hS, hC, hl, hb⟩ := hc.sto h2.2.1
  exact ⟨F2, A', _, _, j, he, hS.base (by omega), hC, hl, hb⟩
end
/-- What an act does to the program's store. -/
def DidR (a : Ac) (A A' : Fs) : Prop :=
  A' = A ∨ A' = A.step ∨
  (A.code = 0 ∧ (((a.kind = 0 ∨ a.kind = 1) ∧ ∃ news, OneB news ∧ news.length ≤ 3000 ∧ WroteR a.name a.at_.toNat news A.step A') ∨ (a.kind = 2 ∧ TruncR a.name a.n.toNat A.step A') ∨ (a.kind = 3 ∧ FsyncR a.name A.step A') ∨ (a.kind = 4 ∧ RenR a.name a.dst A.step A') ∨
    (a.kind = 5 ∧ TurnR a.name ⟨1, a.name, ⟨#[]⟩, none⟩ A.step A') ∨ (a.kind = 6 ∧ SyncR A.step A'))) ∨
  (a.kind = 7 ∧ A' = { A with fail := a.n }) ∨ (a.kind = 8 ∧ A' = { A with pow := a.n }) ∨ (a.kind = 9 ∧ ∃ gt gd j, Crashed gt gd A (fun _ => false) A' j ∧ A'.last = A'.dir)
def pairC (F r : Nat) : Array Value := #[.pointer (some ⟨F, 0, none⟩), .pointer (some ⟨r, 0, none⟩)]
/-- The pair in the heap, with both its stores. -/
structure PairS (w : World) (B P F r : Nat) (A : Fs) (k : Nat) : Prop where
  pair : w.heap[P]? = some (.cells #[.pointer (some ⟨F, 0, none⟩), .pointer (some ⟨r, 0, none⟩)] 35 (0, 0))
  sto : Sto w B F A k
  ref : ROk w B r k
  new : B ≤ P
/-- What a call of both does. -/
def BothP (a : Ac) (B P F : Nat) (A : Fs) (k : Nat) (w : World) (e : Ending) (w' : World) : Prop :=
  BoolP e ∧ (∃ F' r' A', PairS w' B P F' r' A' (k + 2) ∧ DidR a A A' ∧ (a.kind ≠ 9 → F' = F)) ∧ Below B w w'
structure AcOk (w : World) (a : Ac) : Prop where
  nums : NumOk a.at_ ∧ NumOk a.n
  name : a.name.size ≤ maxLen ∧ a.dst.size ≤ maxLen
  turns : RowI w a.tao a.zs
  few : a.zs.length ≤ 10000
  files : RowS w a.fo a.fl
  some_ : a.fl.length ≤ 1000
/-- .. while a call goes on: k1, k2 what bounds the one and the other; cs the act's cells, in X. -/
structure DoI (B P X F r : Nat) (cs : Array Value) (A : Fs) (k1 k2 : Nat) (w0 w : World) : Prop where
  pair : w.heap[P]? = some (.cells #[.pointer (some ⟨F, 0, none⟩), .pointer (some ⟨r, 0, none⟩)] 35 (0, 0))
  box : w.heap[X]? = some (.cells cs 39 (0, 0))
  sto : Sto w B F A k1
  ref : ROk w B r k2
  new : B ≤ P
  below : Below B w0 w
section
variable {B P X F r k1 k2 : Nat} {cs : Array Value} {A : Fs} {w0 w w' : World}
theorem PairS.start {k : Nat} (h : PairS w B P F r A k) (cs : Array Value) : DoI B P w.heap.size F r cs A k k w (w.alloc (.cells cs 39)) :=
  ⟨hb_alloc h.pair _, hb_new w _, h.sto.kept fun b x hx => hb_alloc hx _, h.ref.over (Frm.ofBelow (B := B) (below_alloc w _) (by have := h.sto.lt; omega)), h.new, (below_alloc w _).mono (by have := h.sto.lt; omega)⟩
theorem DoI.drew (h : DoI B P X F r cs A k1 k2 w0 w) : DoI B P X F r cs A k1 k2 w0 w.drew :=
  ⟨h.pair, h.box, h.sto.kept fun _ _ hx => hx, h.ref.over (Frm.drewN B w 1), h.new, h.below.trans (Frm.drewN B w 1).toBelow⟩
theorem DoI.fsteps (h : DoI B P X F r cs A k1 k2 w0 w) {A' : Fs} {k' : Nat} (hS : Sto w' B F A' k') (hf : Frm B w w') : DoI B P X F r cs A' k' k2 w0 w' :=
  ⟨hf.other _ _ _ _ (by decide) (by decide) (by decide) (by decide) h.pair, hf.other _ _ _ _ (by decide) (by decide) (by decide) (by decide) h.box, hS, h.ref.over hf, h.new, h.below.trans hf.toBelow⟩
theorem DoI.rsteps (h : DoI B P X F r cs A k1 k2 w0 w) {k' : Nat} (hR : ROk w' B r k') (hf : RFrm B w w') : DoI B P X F r cs A k1 k' w0 w' :=
  ⟨hf.other _ _ (by intro cs t f e; cases e; decide) h.pair, hf.other _ _ (by intro cs t f e; cases e; decide) h.box, h.sto.over hf, hR, h.new, h.below.trans hf.toBelow⟩
theorem DoI.on (h : DoI B P X F r cs A k1 k2 w0 w) (hb : Below w.heap.size w w') : DoI B P X F r cs A k1 k2 w0 w' :=
  h.fsteps (h.sto.below hb) (Frm.ofBelow hb (by have := h.sto.lt; omega))
theorem DoI.size (h : DoI B P X F r cs A k1 k2 w0 w) : B ≤ w.heap.size := by have := h.sto.lt; omega
theorem DoI.fin {k : Nat} (h : DoI B P X F r cs A k1 k2 w0 w) (h1 : k1 ≤ k) (h2 : k2 ≤ k) : PairS w B P F r A k ∧ Below B w0 w := ⟨⟨h.pair, h.sto.up h1, h.ref.up (Nat.le_refl _) h2, h.new⟩, h.below⟩
end
/-- What the loads of a call read. -/
def DoS (P X F r : Nat) (cs : Array Value) (w : World) : Prop :=
  w.heap[P]? = some (.cells #[.pointer (some ⟨F, 0, none⟩), .pointer (some ⟨r, 0, none⟩)] 35 (0, 0)) ∧ w.heap[X]? = some (.cells cs 39 (0, 0))
theorem DoI.s {B P X F r k1 k2 : Nat} {cs : Array Value} {A : Fs} {w0 w : World} (h : DoI B P X F r cs A k1 k2 w0 w) : RowKit.Hid (DoS P X F r cs w) := Lib.hid ⟨h.pair, h.box⟩
theorem OpP.did {B F k : Nat} {A : Fs} {R : Fs → Fs → Prop} {w w' : World} {e : Ending} (h : OpP B F A k R w e w') : ∃ (c : Int) (A' : Fs), e = .returned (.int .i64 c) ∧ Sto w' B F A' (k + 1) ∧ (A' = A ∨ A' = A.step ∨ (A.code = 0 ∧ R A.step A')) ∧ Frm B w w' := by
  obtain ⟨c, A', h1, h2, h3, h4⟩ := h
  refine ⟨c, A', h1, h2, ?_, h4⟩
  rcases h3 with ⟨_, h | h⟩ | ⟨_, h5, h6⟩
  · exact .inl h
  · exact .inr (.inl h)
  · exact .inr (.inr ⟨h5, h6⟩)
end Go.Proofs.Ytmfphnhdahaooaa
/- A call of both stores: those that are one call of each. -/
namespace Go.Proofs.Ytmfphnhdahaooaa
open Go.RowKit Go.Maps
set_option linter.unusedSimpArgs false
set_option linter.unusedVariables false
def DidIn (a : Ac) (A A' : Fs) : Prop := ((a.kind = 0 ∨ a.kind = 1) ∧ ∃ news, OneB news ∧ news.length ≤ 3000 ∧ WroteR a.name a.at_.toNat news A.step A') ∨ (a.kind = 2 ∧ TruncR a.name a.n.toNat A.step A') ∨ (a.kind = 3 ∧ FsyncR a.name A.step A') ∨ (a.kind = 4 ∧ RenR a.name a.dst A.step A') ∨
    (a.kind = 5 ∧ TurnR a.name ⟨1, a.name, ⟨#[]⟩, none⟩ A.step A') ∨ (a.kind = 6 ∧ SyncR A.step A')
theorem did_of {a a1 : Ac} {A A' : Fs} {R : Prop} (he : a = a1) (h : A' = A ∨ A' = A.step ∨ (A.code = 0 ∧ R)) (hi : R → DidIn a1 A A') : DidR a A A' := by
  subst he
  rcases h with h | h | ⟨h1, h2⟩
  · exact .inl h
  · exact .inr (.inl h)
  · exact .inr (.inr (.inl ⟨h1, hi h2⟩))
section
variable {w : World} {B r k : Nat}
theorem ROk.fsync (h : ROk w B r k) (hk : k ≤ 1000) (hB : B ≤ w.heap.size) (s : ByteArray) (hs : s.size ≤ maxLen) : Calls Try.prog 35 #[.pointer (some ⟨r, 0, none⟩), .string s] w (ROpP B r k w) := by
  obtain ⟨cap, fv, dv, lv, tv, fs, ds, ls, ts, h⟩ := h
  exact rfsync_any h (by omega) hB s hs
theorem ROk.trunc (h : ROk w B r k) (hk : k ≤ 1000) (hB : B ≤ w.heap.size) (s : ByteArray) (hs : s.size ≤ maxLen) (n : Int) : Calls Try.prog 34 #[.pointer (some ⟨r, 0, none⟩), .string s, .int .i64 n] w (ROpP B r k w) := by
  obtain ⟨cap, fv, dv, lv, tv, fs, ds, ls, ts, h⟩ := h
  exact rtrunc_any h (by omega) hB s hs n
theorem ROk.sync (h : ROk w B r k) (hk : k ≤ 1000) (hB : B ≤ w.heap.size) : Calls Try.prog 38 #[.pointer (some ⟨r, 0, none⟩)] w (ROpP B r k w) := by
  obtain ⟨cap, fv, dv, lv, tv, fs, ds, ls, ts, h⟩ := h
  exact rsync_any h (by omega) hB
theorem ROk.remove (h : ROk w B r k) (hk : k ≤ 1000) (hB : B ≤ w.heap.size) (s : ByteArray) (hs : s.size ≤ maxLen) : Calls Try.prog 37 #[.pointer (some ⟨r, 0, none⟩), .string s] w (ROpP B r (k + 1) w) := by
  obtain ⟨cap, fv, dv, lv, tv, fs, ds, ls, ts, h⟩ := h
  exact rremove_any h (by omega) hB s hs
theorem ROk.rename (h : ROk w B r k) (hk : k ≤ 1000) (hB : B ≤ w.heap.size) (s t : ByteArray) (hs : s.size ≤ maxLen) (ht : t.size ≤ maxLen) : Calls Try.prog 36 #[.pointer (some ⟨r, 0, none⟩), .string s, .string t] w (ROpP B r (k + 1) w) := by
  obtain ⟨cap, fv, dv, lv, tv, fs, ds, ls, ts, h⟩ := h
  exact rrename_any h (by omega) hB s t hs ht
theorem ROk.write (h : ROk w B r k) (hk : k ≤ 1000) (hB : B ≤ w.heap.size) (s : ByteArray) (pos : Int) (b : ByteArray) (hs : s.size ≤ maxLen) (hp : -9223372036854775808 ≤ pos ∧ pos ≤ 9223372036854775807) (hb : b.size ≤ maxLen) : Calls Try.prog 33 #[.pointer (some ⟨r, 0, none⟩), .string s, .int .i64 pos, .string b] w (ROpP B r (k + 2) w) := by
  obtain ⟨cap, fv, dv, lv, tv, fs, ds, ls, ts, h⟩ := h
  exact rwrite_any h (by omega) hB s pos b hs hp hb
end
set_option maxRecDepth 100000 in
set_option maxHeartbeats 4000000 in
theorem do_trunc {w : World} {B P F r k : Nat} {A : Fs} {a a0 : Ac} (hae : a0 = a) (h : PairS w B P F r A k) (hk : k ≤ 900) (ha : AcOk w a) (h0 : a.kind = 2) :
    Calls Try.prog 14 #[.pointer (some ⟨P, 0, none⟩), .agg #[.int .i64 a.kind, .string a.name, .string a.dst, .int .i64 a.at_, .int .i64 a.n, .int .u8 a.by_, .slice a.tao a.zs.length a.tc, .slice a.fo a.fl.length a.fc]] w (BothP a0 B P F A k w) := by
  have HAE := Lib.hid hae
  clear hae
  obtain ⟨kind, name, dst, at_, n, by_, tao, zs, tc, fo, fl, fc⟩ := a
  obtain ⟨⟨⟨hp1, hp2⟩, hn1, hn2⟩, ⟨hs, hd⟩, hz, hzl, hf, hfl⟩ := ha
  dsimp only at h0 hp1 hp2 hn1 hn2 hs hd hz hzl hf hfl ⊢
  subst h0
  have HS := Lib.hid hs
  have HD := Lib.hid hd
  have HP := Lib.hid (And.intro hp1 hp2)
  have HNN := Lib.hid (And.intro hn1 hn2)
  have HZ := Lib.hid hz
  have HF := Lib.hid hf
  have HI1 := Lib.hid (h.start #[.int .i64 2, .string name, .string dst, .int .i64 at_, .int .i64 n, .int .u8 by_, .slice tao zs.length tc, .slice fo fl.length fc])
  clear hs hd hp1 hp2 hn1 hn2 hz hf h
  obtain ⟨X, hX⟩ : ∃ X, X = w.heap.size := ⟨_, rfl⟩
  rw [← hX] at HI1
  have y0 : (w.alloc (.cells #[.int .i64 2, .string name, .string dst, .int .i64 at_, .int .i64 n, .int .u8 by_, .slice tao zs.length tc, .slice fo fl.length fc] 39)).cell? ⟨w.heap.size, 0, none⟩ = some (.int .i64 2) := by rw [← hX]; exact hb_at HI1.out.box 0 rfl
  go_enter Try.func14, Try.ntmps14
  go_upto_region 6 with fail
  rw [← hX]
  clear y0 hX
  generalize w.alloc (.cells #[.int .i64 2, .string name, .string dst, .int .i64 at_, .int .i64 n, .int .u8 by_, .slice tao zs.length tc, .slice fo fl.length fc] 39) = w1 at *
  refine wp_region_held_drew (S := fun w' => RowKit.Hid (DoS P X F r #[.int .i64 2, .string name, .string dst, .int .i64 at_, .int .i64 n, .int .u8 by_, .slice tao zs.length tc, .slice fo fl.length fc] w')) (by kernel_rfl) (by exact HI1.out.drew.s) (fun hHeld => ?_)
  refine wpAnyH_take (i := 0) (oi := ⟨some 37, _, _, _, _, _⟩) (v := ?_) rfl (by kernel_rfl) (by kernel_rfl) (by kernel_rfl) (fun _ _ _ h => h) (Or.inl ⟨by rfl, ?_⟩) (by assumption) ?_
  rotate_left
  focus (intro w hSw; (try dsimp only at hSw); go_simp; first | done | with_reducible rfl)
  try simp only [Act.put, List.setIfInBounds_toArray, List.set_cons_zero, List.set_cons_succ]
  refine wpAnyH_take (i := 1) (oi := ⟨some 38, _, _, _, _, _⟩) (v := ?_) rfl (by kernel_rfl) (by kernel_rfl) (by kernel_rfl) (fun _ _ _ h => h) (Or.inl ⟨by rfl, ?_⟩) (by assumption) ?_
  rotate_left
  focus (intro w hSw; (try dsimp only at hSw); go_simp; first | done | with_reducible rfl)
  try simp only [Act.put, List.setIfInBounds_toArray, List.set_cons_zero, List.set_cons_succ]
  refine wpAnyH_take (i := 2) (oi := ⟨some 39, _, _, _, _, _⟩) (v := ?_) rfl (by kernel_rfl) (by kernel_rfl) (by kernel_rfl) (fun _ _ _ h => h) (Or.inl ⟨by rfl, ?_⟩) (by assumption) ?_
  rotate_left
  focus (intro w hSw; (try dsimp only at hSw); go_simp; first | done | with_reducible rfl)
  try simp only [Act.put, List.setIfInBounds_toArray, List.set_cons_zero, List.set_cons_succ]
  refine wpAnyH_take (i := 3) (oi := ⟨some 40, _, _, _, _, _⟩) (v := ?_) rfl (by kernel_rfl) (by kernel_rfl) (by kernel_rfl) (fun _ _ _ h => h) (Or.inl ⟨by rfl, ?_⟩) (by assumption) ?_
  rotate_left
  focus (intro w hSw; obtain ⟨q0, q1⟩ := hSw.out; have e0 := hb_at q0 0 rfl; have e1 := hb_at q0 1 rfl; have x0 := hb_at q1 0 rfl; have x1 := hb_at q1 1 rfl; have x2 := hb_at q1 2 rfl; have x3 := hb_at q1 3 rfl; have x4 := hb_at q1 4 rfl; have x5 := hb_at q1 5 rfl; have x6 := hb_at q1 6 rfl; have x7 := hb_at q1 7 rfl; clear q0 q1; go_simp; first | done | with_reducible rfl)
  try simp only [Act.put, List.setIfInBounds_toArray, List.set_cons_zero, List.set_cons_succ]
  refine wpAnyH_take (i := 4) (oi := ⟨some 41, _, _, _, _, _⟩) (v := ?_) rfl (by kernel_rfl) (by kernel_rfl) (by kernel_rfl) (fun _ _ _ h => h) (Or.inl ⟨by rfl, ?_⟩) (by assumption) ?_
  rotate_left
  focus (intro w hSw; (try dsimp only at hSw); go_simp; first | done | with_reducible rfl)
  try simp only [Act.put, List.setIfInBounds_toArray, List.set_cons_zero, List.set_cons_succ]
  refine wpAnyH_take (i := 5) (oi := ⟨some 42, _, _, _, _, _⟩) (v := ?_) rfl (by kernel_rfl) (by kernel_rfl) (by kernel_rfl) (fun _ _ _ h => h) (Or.inl ⟨by rfl, ?_⟩) (by assumption) ?_
  rotate_left
  focus (intro w hSw; obtain ⟨q0, q1⟩ := hSw.out; have e0 := hb_at q0 0 rfl; have e1 := hb_at q0 1 rfl; have x0 := hb_at q1 0 rfl; have x1 := hb_at q1 1 rfl; have x2 := hb_at q1 2 rfl; have x3 := hb_at q1 3 rfl; have x4 := hb_at q1 4 rfl; have x5 := hb_at q1 5 rfl; have x6 := hb_at q1 6 rfl; have x7 := hb_at q1 7 rfl; clear q0 q1; go_simp; first | done | with_reducible rfl)
  try simp only [Act.put, List.setIfInBounds_toArray, List.set_cons_zero, List.set_cons_succ]
  refine wpAnyH_take (i := 6) (oi := ⟨some 43, _, _, _, _, _⟩) (v := ?_) rfl (by kernel_rfl) (by kernel_rfl) (by kernel_rfl) (fun _ _ _ h => h) (Or.inl ⟨by rfl, ?_⟩) (by assumption) ?_
  rotate_left
  focus (intro w hSw; (try dsimp only at hSw); go_simp; first | done | with_reducible rfl)
  try simp only [Act.put, List.setIfInBounds_toArray, List.set_cons_zero, List.set_cons_succ]
  refine wpAnyH_take (i := 7) (oi := ⟨some 44, _, _, _, _, _⟩) (v := ?_) rfl (by kernel_rfl) (by kernel_rfl) (by kernel_rfl) (fun _ _ _ h => h) (Or.inl ⟨by rfl, ?_⟩) (by assumption) ?_
  rotate_left
  focus (intro w hSw; obtain ⟨q0, q1⟩ := hSw.out; have e0 := hb_at q0 0 rfl; have e1 := hb_at q0 1 rfl; have x0 := hb_at q1 0 rfl; have x1 := hb_at q1 1 rfl; have x2 := hb_at q1 2 rfl; have x3 := hb_at q1 3 rfl; have x4 := hb_at q1 4 rfl; have x5 := hb_at q1 5 rfl; have x6 := hb_at q1 6 rfl; have x7 := hb_at q1 7 rfl; clear q0 q1; go_simp; first | done | with_reducible rfl)
  try simp only [Act.put, List.setIfInBounds_toArray, List.set_cons_zero, List.set_cons_succ]
  refine wpAnyH_take (i := 10) (oi := ⟨some 47, _, _, _, _, _⟩) (v := ?_) rfl (by kernel_rfl) (by kernel_rfl) (by kernel_rfl) (fun _ _ _ h => h) (Or.inl ⟨by rfl, ?_⟩) (by assumption) ?_
  rotate_left
  focus (intro w hSw; (try dsimp only at hSw); go_simp; first | done | with_reducible rfl)
  try simp only [Act.put, List.setIfInBounds_toArray, List.set_cons_zero, List.set_cons_succ]
  refine wpAnyH_take (i := 11) (oi := ⟨some 48, _, _, _, _, _⟩) (v := ?_) rfl (by kernel_rfl) (by kernel_rfl) (by kernel_rfl) (fun _ _ _ h => h) (Or.inl ⟨by rfl, ?_⟩) (by assumption) ?_
  rotate_left
  focus (intro w hSw; (try dsimp only at hSw); go_simp; first | done | with_reducible rfl)
  try simp only [Act.put, List.setIfInBounds_toArray, List.set_cons_zero, List.set_cons_succ]
  refine wpAnyH_take (i := 12) (oi := ⟨some 49, _, _, _, _, _⟩) (v := ?_) rfl (by kernel_rfl) (by kernel_rfl) (by kernel_rfl) (fun _ _ _ h => h) (Or.inl ⟨by rfl, ?_⟩) (by assumption) ?_
  rotate_left
  focus (intro w hSw; (try dsimp only at hSw); go_simp; first | done | with_reducible rfl)
  try simp only [Act.put, List.setIfInBounds_toArray, List.set_cons_zero, List.set_cons_succ]
  refine wpAnyH_take (i := 13) (oi := ⟨some 50, _, _, _, _, _⟩) (v := ?_) rfl (by kernel_rfl) (by kernel_rfl) (by kernel_rfl) (fun _ _ _ h => h) (Or.inl ⟨by rfl, ?_⟩) (by assumption) ?_
  rotate_left
  focus (intro w hSw; obtain ⟨q0, q1⟩ := hSw.out; have e0 := hb_at q0 0 rfl; have e1 := hb_at q0 1 rfl; have x0 := hb_at q1 0 rfl; have x1 := hb_at q1 1 rfl; have x2 := hb_at q1 2 rfl; have x3 := hb_at q1 3 rfl; have x4 := hb_at q1 4 rfl; have x5 := hb_at q1 5 rfl; have x6 := hb_at q1 6 rfl; have x7 := hb_at q1 7 rfl; clear q0 q1; go_simp; first | done | with_reducible rfl)
  try simp only [Act.put, List.setIfInBounds_toArray, List.set_cons_zero, List.set_cons_succ]
  refine wpAnyH_take (i := 14) (oi := ⟨some 51, _, _, _, _, _⟩) (v := ?_) rfl (by kernel_rfl) (by kernel_rfl) (by kernel_rfl) (fun _ _ _ h => h) (Or.inl ⟨by rfl, ?_⟩) (by assumption) ?_
  rotate_left
  focus (intro w hSw; (try dsimp only at hSw); go_simp; first | done | with_reducible rfl)
  try simp only [Act.put, List.setIfInBounds_toArray, List.set_cons_zero, List.set_cons_succ]
  refine wpAnyH_take (i := 15) (oi := ⟨some 52, _, _, _, _, _⟩) (v := ?_) rfl (by kernel_rfl) (by kernel_rfl) (by kernel_rfl) (fun _ _ _ h => h) (Or.inl ⟨by rfl, ?_⟩) (by assumption) ?_
  rotate_left
  focus (intro w hSw; obtain ⟨q0, q1⟩ := hSw.out; have e0 := hb_at q0 0 rfl; have e1 := hb_at q0 1 rfl; have x0 := hb_at q1 0 rfl; have x1 := hb_at q1 1 rfl; have x2 := hb_at q1 2 rfl; have x3 := hb_at q1 3 rfl; have x4 := hb_at q1 4 rfl; have x5 := hb_at q1 5 rfl; have x6 := hb_at q1 6 rfl; have x7 := hb_at q1 7 rfl; clear q0 q1; go_simp; first | done | with_reducible rfl)
  try simp only [Act.put, List.setIfInBounds_toArray, List.set_cons_zero, List.set_cons_succ]
  refine wpAnyH_take (i := 16) (oi := ⟨some 53, _, _, _, _, _⟩) (v := ?_) rfl (by kernel_rfl) (by kernel_rfl) (by kernel_rfl) (fun _ _ _ h => h) (Or.inl ⟨by rfl, ?_⟩) (by assumption) ?_
  rotate_left
  focus (intro w hSw; (try dsimp only at hSw); go_simp; first | done | with_reducible rfl)
  try simp only [Act.put, List.setIfInBounds_toArray, List.set_cons_zero, List.set_cons_succ]
  refine wpAnyH_take (i := 17) (oi := ⟨some 54, _, _, _, _, _⟩) (v := ?_) rfl (by kernel_rfl) (by kernel_rfl) (by kernel_rfl) (fun _ _ _ h => h) (Or.inl ⟨by rfl, ?_⟩) (by assumption) ?_
  rotate_left
  focus (intro w hSw; obtain ⟨q0, q1⟩ := hSw.out; have e0 := hb_at q0 0 rfl; have e1 := hb_at q0 1 rfl; have x0 := hb_at q1 0 rfl; have x1 := hb_at q1 1 rfl; have x2 := hb_at q1 2 rfl; have x3 := hb_at q1 3 rfl; have x4 := hb_at q1 4 rfl; have x5 := hb_at q1 5 rfl; have x6 := hb_at q1 6 rfl; have x7 := hb_at q1 7 rfl; clear q0 q1; go_simp; first | done | with_reducible rfl)
  try simp only [Act.put, List.setIfInBounds_toArray, List.set_cons_zero, List.set_cons_succ]
  refine wpAnyH_ready (rs := [8]) (by kernel_rfl) (by simp) ?_
  refine AllReadyH.cons (o := ⟨some 45, _, _, _, _, _⟩) rfl (fun K hK => ?_) AllReadyH.nil
  go_simp
  (go_at_call 27; (with_reducible refine (HI1.out.drew.sto.trunc (by omega) name HS.out n).mono ?_); rintro e w2 hop; obtain ⟨c, A', rfl, hS, hdd, hfr⟩ := hop.did; have HI2 := Lib.hid (HI1.out.drew.fsteps hS hfr); have HDD := Lib.hid hdd; clear hS hdd hfr)
  go_wp2_with fail
  refine hK.out _ _ (HI2.out.s) (fun hNew => ?_)
  clear hK K
  have hHeld := hNew
  try simp only [Act.put, List.setIfInBounds_toArray, List.set_cons_zero, List.set_cons_succ]
  refine wpAnyH_ready (rs := [9]) (by kernel_rfl) (by simp) ?_
  refine AllReadyH.cons (o := ⟨some 46, _, _, _, _, _⟩) rfl (fun K hK => ?_) AllReadyH.nil
  go_simp
  (go_at_call 11; (with_reducible refine (no_any _ _).mono ?_); rintro e w9 ⟨rfl, rfl⟩)
  go_wp2_with fail
  refine hK.out _ _ (HI2.out.s) (fun hNew => ?_)
  clear hK K
  have hHeld := hNew
  try simp only [Act.put, List.setIfInBounds_toArray, List.set_cons_zero, List.set_cons_succ]
  refine wpAnyH_ready (rs := [18]) (by kernel_rfl) (by simp) ?_
  refine AllReadyH.cons (o := ⟨some 55, _, _, _, _, _⟩) rfl (fun K hK => ?_) AllReadyH.nil
  go_simp
  (go_at_call 34; (with_reducible refine (HI2.out.ref.trunc (by omega) HI2.out.size name HS.out n).mono ?_); rintro e w3 ⟨⟨c2, rfl⟩, hR, hfr⟩; have HI9 := Lib.hid (HI2.out.rsteps hR hfr); clear hR hfr)
  go_wp2_with fail
  refine hK.out _ _ (HI9.out.s) (fun hNew => ?_)
  clear hK K
  have hHeld := hNew
  try simp only [Act.put, List.setIfInBounds_toArray, List.set_cons_zero, List.set_cons_succ]
  refine wpAnyH_take (i := 19) (oi := ⟨some 56, _, _, _, _, _⟩) (v := ?_) rfl (by kernel_rfl) (by kernel_rfl) (by kernel_rfl) (fun _ _ _ h => h) (Or.inl ⟨by rfl, ?_⟩) (by assumption) ?_
  rotate_left
  focus (intro w hSw; (try dsimp only at hSw); go_simp; first | done | with_reducible rfl)
  try simp only [Act.put, List.setIfInBounds_toArray, List.set_cons_zero, List.set_cons_succ]
  refine wpAnyH_take (i := 20) (oi := ⟨some 4, _, _, _, _, _⟩) (v := ?_) rfl (by kernel_rfl) (by kernel_rfl) (by kernel_rfl) (fun _ _ _ h => h) (Or.inl ⟨by rfl, ?_⟩) (by assumption) ?_
  rotate_left
  focus (intro w hSw; (try dsimp only at hSw); go_simp; first | done | with_reducible rfl)
  try simp only [Act.put, List.setIfInBounds_toArray, List.set_cons_zero, List.set_cons_succ]
  refine wpAnyH_done (by kernel_rfl) ?_ _
  clear hHeld
  go_wp2
  go_ret
  obtain ⟨hps, hbl⟩ := HI9.out.fin (k := k + 2) (by omega) (by omega)
  exact ⟨⟨_, rfl⟩, ⟨F, r, A', hps, (did_of HAE.out HDD.out fun h => .inr (.inl ⟨rfl, h⟩)), fun _ => rfl⟩, hbl⟩
set_option maxRecDepth 100000 in
set_option maxHeartbeats 4000000 in
theorem do_fsync {w : World} {B P F r k : Nat} {A : Fs} {a a0 : Ac} (hae : a0 = a) (h : PairS w B P F r A k) (hk : k ≤ 900) (ha : AcOk w a) (h0 : a.kind = 3) :
    Calls Try.prog 14 #[.pointer (some ⟨P, 0, none⟩), .agg #[.int .i64 a.kind, .string a.name, .string a.dst, .int .i64 a.at_, .int .i64 a.n, .int .u8 a.by_, .slice a.tao a.zs.length a.tc, .slice a.fo a.fl.length a.fc]] w (BothP a0 B P F A k w) := by
  have HAE := Lib.hid hae
  clear hae
  obtain ⟨kind, name, dst, at_, n, by_, tao, zs, tc, fo, fl, fc⟩ := a
  obtain ⟨⟨⟨hp1, hp2⟩, hn1, hn2⟩, ⟨hs, hd⟩, hz, hzl, hf, hfl⟩ := ha
  dsimp only at h0 hp1 hp2 hn1 hn2 hs hd hz hzl hf hfl ⊢
  subst h0
  have HS := Lib.hid hs
  have HD := Lib.hid hd
  have HP := Lib.hid (And.intro hp1 hp2)
  have HNN := Lib.hid (And.intro hn1 hn2)
  have HZ := Lib.hid hz
  have HF := Lib.hid hf
  have HI1 := Lib.hid (h.start #[.int .i64 3, .string name, .string dst, .int .i64 at_, .int .i64 n, .int .u8 by_, .slice tao zs.length tc, .slice fo fl.length fc])
  clear hs hd hp1 hp2 hn1 hn2 hz hf h
  obtain ⟨X, hX⟩ : ∃ X, X = w.heap.size := ⟨_, rfl⟩
  rw [← hX] at HI1
  have y0 : (w.alloc (.cells #[.int .i64 3, .string name, .string dst, .int .i64 at_, .int .i64 n, .int .u8 by_, .slice tao zs.length tc, .slice fo fl.length fc] 39)).cell? ⟨w.heap.size, 0, none⟩ = some (.int .i64 3) := by rw [← hX]; exact hb_at HI1.out.box 0 rfl
  go_enter Try.func14, Try.ntmps14
  go_upto_region 8 with fail
  rw [← hX]
  clear y0 hX
  generalize w.alloc (.cells #[.int .i64 3, .string name, .string dst, .int .i64 at_, .int .i64 n, .int .u8 by_, .slice tao zs.length tc, .slice fo fl.length fc] 39) = w1 at *
  refine wp_region_held_drew (S := fun w' => RowKit.Hid (DoS P X F r #[.int .i64 3, .string name, .string dst, .int .i64 at_, .int .i64 n, .int .u8 by_, .slice tao zs.length tc, .slice fo fl.length fc] w')) (by kernel_rfl) (by exact HI1.out.drew.s) (fun hHeld => ?_)
  refine wpAnyH_take (i := 0) (oi := ⟨some 59, _, _, _, _, _⟩) (v := ?_) rfl (by kernel_rfl) (by kernel_rfl) (by kernel_rfl) (fun _ _ _ h => h) (Or.inl ⟨by rfl, ?_⟩) (by assumption) ?_
  rotate_left
  focus (intro w hSw; (try dsimp only at hSw); go_simp; first | done | with_reducible rfl)
  try simp only [Act.put, List.setIfInBounds_toArray, List.set_cons_zero, List.set_cons_succ]
  refine wpAnyH_take (i := 1) (oi := ⟨some 60, _, _, _, _, _⟩) (v := ?_) rfl (by kernel_rfl) (by kernel_rfl) (by kernel_rfl) (fun _ _ _ h => h) (Or.inl ⟨by rfl, ?_⟩) (by assumption) ?_
  rotate_left
  focus (intro w hSw; (try dsimp only at hSw); go_simp; first | done | with_reducible rfl)
  try simp only [Act.put, List.setIfInBounds_toArray, List.set_cons_zero, List.set_cons_succ]
  refine wpAnyH_take (i := 2) (oi := ⟨some 61, _, _, _, _, _⟩) (v := ?_) rfl (by kernel_rfl) (by kernel_rfl) (by kernel_rfl) (fun _ _ _ h => h) (Or.inl ⟨by rfl, ?_⟩) (by assumption) ?_
  rotate_left
  focus (intro w hSw; (try dsimp only at hSw); go_simp; first | done | with_reducible rfl)
  try simp only [Act.put, List.setIfInBounds_toArray, List.set_cons_zero, List.set_cons_succ]
  refine wpAnyH_take (i := 3) (oi := ⟨some 62, _, _, _, _, _⟩) (v := ?_) rfl (by kernel_rfl) (by kernel_rfl) (by kernel_rfl) (fun _ _ _ h => h) (Or.inl ⟨by rfl, ?_⟩) (by assumption) ?_
  rotate_left
  focus (intro w hSw; obtain ⟨q0, q1⟩ := hSw.out; have e0 := hb_at q0 0 rfl; have e1 := hb_at q0 1 rfl; have x0 := hb_at q1 0 rfl; have x1 := hb_at q1 1 rfl; have x2 := hb_at q1 2 rfl; have x3 := hb_at q1 3 rfl; have x4 := hb_at q1 4 rfl; have x5 := hb_at q1 5 rfl; have x6 := hb_at q1 6 rfl; have x7 := hb_at q1 7 rfl; clear q0 q1; go_simp; first | done | with_reducible rfl)
  try simp only [Act.put, List.setIfInBounds_toArray, List.set_cons_zero, List.set_cons_succ]
  refine wpAnyH_take (i := 4) (oi := ⟨some 63, _, _, _, _, _⟩) (v := ?_) rfl (by kernel_rfl) (by kernel_rfl) (by kernel_rfl) (fun _ _ _ h => h) (Or.inl ⟨by rfl, ?_⟩) (by assumption) ?_
  rotate_left
  focus (intro w hSw; (try dsimp only at hSw); go_simp; first | done | with_reducible rfl)
  try simp only [Act.put, List.setIfInBounds_toArray, List.set_cons_zero, List.set_cons_succ]
  refine wpAnyH_take (i := 5) (oi := ⟨some 64, _, _, _, _, _⟩) (v := ?_) rfl (by kernel_rfl) (by kernel_rfl) (by kernel_rfl) (fun _ _ _ h => h) (Or.inl ⟨by rfl, ?_⟩) (by assumption) ?_
  rotate_left
  focus (intro w hSw; obtain ⟨q0, q1⟩ := hSw.out; have e0 := hb_at q0 0 rfl; have e1 := hb_at q0 1 rfl; have x0 := hb_at q1 0 rfl; have x1 := hb_at q1 1 rfl; have x2 := hb_at q1 2 rfl; have x3 := hb_at q1 3 rfl; have x4 := hb_at q1 4 rfl; have x5 := hb_at q1 5 rfl; have x6 := hb_at q1 6 rfl; have x7 := hb_at q1 7 rfl; clear q0 q1; go_simp; first | done | with_reducible rfl)
  try simp only [Act.put, List.setIfInBounds_toArray, List.set_cons_zero, List.set_cons_succ]
  refine wpAnyH_take (i := 8) (oi := ⟨some 67, _, _, _, _, _⟩) (v := ?_) rfl (by kernel_rfl) (by kernel_rfl) (by kernel_rfl) (fun _ _ _ h => h) (Or.inl ⟨by rfl, ?_⟩) (by assumption) ?_
  rotate_left
  focus (intro w hSw; (try dsimp only at hSw); go_simp; first | done | with_reducible rfl)
  try simp only [Act.put, List.setIfInBounds_toArray, List.set_cons_zero, List.set_cons_succ]
  refine wpAnyH_take (i := 9) (oi := ⟨some 68, _, _, _, _, _⟩) (v := ?_) rfl (by kernel_rfl) (by kernel_rfl) (by kernel_rfl) (fun _ _ _ h => h) (Or.inl ⟨by rfl, ?_⟩) (by assumption) ?_
  rotate_left
  focus (intro w hSw; (try dsimp only at hSw); go_simp; first | done | with_reducible rfl)
  try simp only [Act.put, List.setIfInBounds_toArray, List.set_cons_zero, List.set_cons_succ]
  refine wpAnyH_take (i := 10) (oi := ⟨some 69, _, _, _, _, _⟩) (v := ?_) rfl (by kernel_rfl) (by kernel_rfl) (by kernel_rfl) (fun _ _ _ h => h) (Or.inl ⟨by rfl, ?_⟩) (by assumption) ?_
  rotate_left
  focus (intro w hSw; (try dsimp only at hSw); go_simp; first | done | with_reducible rfl)
  try simp only [Act.put, List.setIfInBounds_toArray, List.set_cons_zero, List.set_cons_succ]
  refine wpAnyH_take (i := 11) (oi := ⟨some 70, _, _, _, _, _⟩) (v := ?_) rfl (by kernel_rfl) (by kernel_rfl) (by kernel_rfl) (fun _ _ _ h => h) (Or.inl ⟨by rfl, ?_⟩) (by assumption) ?_
  rotate_left
  focus (intro w hSw; obtain ⟨q0, q1⟩ := hSw.out; have e0 := hb_at q0 0 rfl; have e1 := hb_at q0 1 rfl; have x0 := hb_at q1 0 rfl; have x1 := hb_at q1 1 rfl; have x2 := hb_at q1 2 rfl; have x3 := hb_at q1 3 rfl; have x4 := hb_at q1 4 rfl; have x5 := hb_at q1 5 rfl; have x6 := hb_at q1 6 rfl; have x7 := hb_at q1 7 rfl; clear q0 q1; go_simp; first | done | with_reducible rfl)
  try simp only [Act.put, List.setIfInBounds_toArray, List.set_cons_zero, List.set_cons_succ]
  refine wpAnyH_take (i := 12) (oi := ⟨some 71, _, _, _, _, _⟩) (v := ?_) rfl (by kernel_rfl) (by kernel_rfl) (by kernel_rfl) (fun _ _ _ h => h) (Or.inl ⟨by rfl, ?_⟩) (by assumption) ?_
  rotate_left
  focus (intro w hSw; (try dsimp only at hSw); go_simp; first | done | with_reducible rfl)
  try simp only [Act.put, List.setIfInBounds_toArray, List.set_cons_zero, List.set_cons_succ]
  refine wpAnyH_take (i := 13) (oi := ⟨some 72, _, _, _, _, _⟩) (v := ?_) rfl (by kernel_rfl) (by kernel_rfl) (by kernel_rfl) (fun _ _ _ h => h) (Or.inl ⟨by rfl, ?_⟩) (by assumption) ?_
  rotate_left
  focus (intro w hSw; obtain ⟨q0, q1⟩ := hSw.out; have e0 := hb_at q0 0 rfl; have e1 := hb_at q0 1 rfl; have x0 := hb_at q1 0 rfl; have x1 := hb_at q1 1 rfl; have x2 := hb_at q1 2 rfl; have x3 := hb_at q1 3 rfl; have x4 := hb_at q1 4 rfl; have x5 := hb_at q1 5 rfl; have x6 := hb_at q1 6 rfl; have x7 := hb_at q1 7 rfl; clear q0 q1; go_simp; first | done | with_reducible rfl)
  try simp only [Act.put, List.setIfInBounds_toArray, List.set_cons_zero, List.set_cons_succ]
  refine wpAnyH_ready (rs := [6]) (by kernel_rfl) (by simp) ?_
  refine AllReadyH.cons (o := ⟨some 65, _, _, _, _, _⟩) rfl (fun K hK => ?_) AllReadyH.nil
  go_simp
  (go_at_call 17; (with_reducible refine (HI1.out.drew.sto.fsync name HS.out).mono ?_); rintro e w2 hop; obtain ⟨c, A', rfl, hS, hdd, hfr⟩ := hop.did; have HI2 := Lib.hid (HI1.out.drew.fsteps hS hfr); have HDD := Lib.hid hdd; clear hS hdd hfr)
  go_wp2_with fail
  refine hK.out _ _ (HI2.out.s) (fun hNew => ?_)
  clear hK K
  have hHeld := hNew
  try simp only [Act.put, List.setIfInBounds_toArray, List.set_cons_zero, List.set_cons_succ]
  refine wpAnyH_ready (rs := [7]) (by kernel_rfl) (by simp) ?_
  refine AllReadyH.cons (o := ⟨some 66, _, _, _, _, _⟩) rfl (fun K hK => ?_) AllReadyH.nil
  go_simp
  (go_at_call 11; (with_reducible refine (no_any _ _).mono ?_); rintro e w9 ⟨rfl, rfl⟩)
  go_wp2_with fail
  refine hK.out _ _ (HI2.out.s) (fun hNew => ?_)
  clear hK K
  have hHeld := hNew
  try simp only [Act.put, List.setIfInBounds_toArray, List.set_cons_zero, List.set_cons_succ]
  refine wpAnyH_ready (rs := [14]) (by kernel_rfl) (by simp) ?_
  refine AllReadyH.cons (o := ⟨some 73, _, _, _, _, _⟩) rfl (fun K hK => ?_) AllReadyH.nil
  go_simp
  (go_at_call 35; (with_reducible refine (HI2.out.ref.fsync (by omega) HI2.out.size name HS.out).mono ?_); rintro e w3 ⟨⟨c2, rfl⟩, hR, hfr⟩; have HI9 := Lib.hid (HI2.out.rsteps hR hfr); clear hR hfr)
  go_wp2_with fail
  refine hK.out _ _ (HI9.out.s) (fun hNew => ?_)
  clear hK K
  have hHeld := hNew
  try simp only [Act.put, List.setIfInBounds_toArray, List.set_cons_zero, List.set_cons_succ]
  refine wpAnyH_take (i := 15) (oi := ⟨some 74, _, _, _, _, _⟩) (v := ?_) rfl (by kernel_rfl) (by kernel_rfl) (by kernel_rfl) (fun _ _ _ h => h) (Or.inl ⟨by rfl, ?_⟩) (by assumption) ?_
  rotate_left
  focus (intro w hSw; (try dsimp only at hSw); go_simp; first | done | with_reducible rfl)
  try simp only [Act.put, List.setIfInBounds_toArray, List.set_cons_zero, List.set_cons_succ]
  refine wpAnyH_take (i := 16) (oi := ⟨some 4, _, _, _, _, _⟩) (v := ?_) rfl (by kernel_rfl) (by kernel_rfl) (by kernel_rfl) (fun _ _ _ h => h) (Or.inl ⟨by rfl, ?_⟩) (by assumption) ?_
  rotate_left
  focus (intro w hSw; (try dsimp only at hSw); go_simp; first | done | with_reducible rfl)
  try simp only [Act.put, List.setIfInBounds_toArray, List.set_cons_zero, List.set_cons_succ]
  refine wpAnyH_done (by kernel_rfl) ?_ _
  clear hHeld
  go_wp2
  go_ret
  obtain ⟨hps, hbl⟩ := HI9.out.fin (k := k + 2) (by omega) (by omega)
  exact ⟨⟨_, rfl⟩, ⟨F, r, A', hps, (did_of HAE.out HDD.out fun h => .inr (.inr (.inl ⟨rfl, h⟩))), fun _ => rfl⟩, hbl⟩
set_option maxRecDepth 100000 in
set_option maxHeartbeats 4000000 in
theorem do_rename {w : World} {B P F r k : Nat} {A : Fs} {a a0 : Ac} (hae : a0 = a) (h : PairS w B P F r A k) (hk : k ≤ 900) (ha : AcOk w a) (h0 : a.kind = 4) :
    Calls Try.prog 14 #[.pointer (some ⟨P, 0, none⟩), .agg #[.int .i64 a.kind, .string a.name, .string a.dst, .int .i64 a.at_, .int .i64 a.n, .int .u8 a.by_, .slice a.tao a.zs.length a.tc, .slice a.fo a.fl.length a.fc]] w (BothP a0 B P F A k w) := by
  have HAE := Lib.hid hae
  clear hae
  obtain ⟨kind, name, dst, at_, n, by_, tao, zs, tc, fo, fl, fc⟩ := a
  obtain ⟨⟨⟨hp1, hp2⟩, hn1, hn2⟩, ⟨hs, hd⟩, hz, hzl, hf, hfl⟩ := ha
  dsimp only at h0 hp1 hp2 hn1 hn2 hs hd hz hzl hf hfl ⊢
  subst h0
  have HS := Lib.hid hs
  have HD := Lib.hid hd
  have HP := Lib.hid (And.intro hp1 hp2)
  have HNN := Lib.hid (And.intro hn1 hn2)
  have HZ := Lib.hid hz
  have HF := Lib.hid hf
  have HI1 := Lib.hid (h.start #[.int .i64 4, .string name, .string dst, .int .i64 at_, .int .i64 n, .int .u8 by_, .slice tao zs.length tc, .slice fo fl.length fc])
  clear hs hd hp1 hp2 hn1 hn2 hz hf h
  obtain ⟨X, hX⟩ : ∃ X, X = w.heap.size := ⟨_, rfl⟩
  rw [← hX] at HI1
  have y0 : (w.alloc (.cells #[.int .i64 4, .string name, .string dst, .int .i64 at_, .int .i64 n, .int .u8 by_, .slice tao zs.length tc, .slice fo fl.length fc] 39)).cell? ⟨w.heap.size, 0, none⟩ = some (.int .i64 4) := by rw [← hX]; exact hb_at HI1.out.box 0 rfl
  go_enter Try.func14, Try.ntmps14
  go_upto_region 10 with fail
  rw [← hX]
  clear y0 hX
  generalize w.alloc (.cells #[.int .i64 4, .string name, .string dst, .int .i64 at_, .int .i64 n, .int .u8 by_, .slice tao zs.length tc, .slice fo fl.length fc] 39) = w1 at *
  refine wp_region_held_drew (S := fun w' => RowKit.Hid (DoS P X F r #[.int .i64 4, .string name, .string dst, .int .i64 at_, .int .i64 n, .int .u8 by_, .slice tao zs.length tc, .slice fo fl.length fc] w')) (by kernel_rfl) (by exact HI1.out.drew.s) (fun hHeld => ?_)
  refine wpAnyH_take (i := 0) (oi := ⟨some 77, _, _, _, _, _⟩) (v := ?_) rfl (by kernel_rfl) (by kernel_rfl) (by kernel_rfl) (fun _ _ _ h => h) (Or.inl ⟨by rfl, ?_⟩) (by assumption) ?_
  rotate_left
  focus (intro w hSw; (try dsimp only at hSw); go_simp; first | done | with_reducible rfl)
  try simp only [Act.put, List.setIfInBounds_toArray, List.set_cons_zero, List.set_cons_succ]
  refine wpAnyH_take (i := 1) (oi := ⟨some 78, _, _, _, _, _⟩) (v := ?_) rfl (by kernel_rfl) (by kernel_rfl) (by kernel_rfl) (fun _ _ _ h => h) (Or.inl ⟨by rfl, ?_⟩) (by assumption) ?_
  rotate_left
  focus (intro w hSw; (try dsimp only at hSw); go_simp; first | done | with_reducible rfl)
  try simp only [Act.put, List.setIfInBounds_toArray, List.set_cons_zero, List.set_cons_succ]
  refine wpAnyH_take (i := 2) (oi := ⟨some 79, _, _, _, _, _⟩) (v := ?_) rfl (by kernel_rfl) (by kernel_rfl) (by kernel_rfl) (fun _ _ _ h => h) (Or.inl ⟨by rfl, ?_⟩) (by assumption) ?_
  rotate_left
  focus (intro w hSw; (try dsimp only at hSw); go_simp; first | done | with_reducible rfl)
  try simp only [Act.put, List.setIfInBounds_toArray, List.set_cons_zero, List.set_cons_succ]
  refine wpAnyH_take (i := 3) (oi := ⟨some 80, _, _, _, _, _⟩) (v := ?_) rfl (by kernel_rfl) (by kernel_rfl) (by kernel_rfl) (fun _ _ _ h => h) (Or.inl ⟨by rfl, ?_⟩) (by assumption) ?_
  rotate_left
  focus (intro w hSw; obtain ⟨q0, q1⟩ := hSw.out; have e0 := hb_at q0 0 rfl; have e1 := hb_at q0 1 rfl; have x0 := hb_at q1 0 rfl; have x1 := hb_at q1 1 rfl; have x2 := hb_at q1 2 rfl; have x3 := hb_at q1 3 rfl; have x4 := hb_at q1 4 rfl; have x5 := hb_at q1 5 rfl; have x6 := hb_at q1 6 rfl; have x7 := hb_at q1 7 rfl; clear q0 q1; go_simp; first | done | with_reducible rfl)
  try simp only [Act.put, List.setIfInBounds_toArray, List.set_cons_zero, List.set_cons_succ]
  refine wpAnyH_take (i := 4) (oi := ⟨some 81, _, _, _, _, _⟩) (v := ?_) rfl (by kernel_rfl) (by kernel_rfl) (by kernel_rfl) (fun _ _ _ h => h) (Or.inl ⟨by rfl, ?_⟩) (by assumption) ?_
  rotate_left
  focus (intro w hSw; (try dsimp only at hSw); go_simp; first | done | with_reducible rfl)
  try simp only [Act.put, List.setIfInBounds_toArray, List.set_cons_zero, List.set_cons_succ]
  refine wpAnyH_take (i := 5) (oi := ⟨some 82, _, _, _, _, _⟩) (v := ?_) rfl (by kernel_rfl) (by kernel_rfl) (by kernel_rfl) (fun _ _ _ h => h) (Or.inl ⟨by rfl, ?_⟩) (by assumption) ?_
  rotate_left
  focus (intro w hSw; obtain ⟨q0, q1⟩ := hSw.out; have e0 := hb_at q0 0 rfl; have e1 := hb_at q0 1 rfl; have x0 := hb_at q1 0 rfl; have x1 := hb_at q1 1 rfl; have x2 := hb_at q1 2 rfl; have x3 := hb_at q1 3 rfl; have x4 := hb_at q1 4 rfl; have x5 := hb_at q1 5 rfl; have x6 := hb_at q1 6 rfl; have x7 := hb_at q1 7 rfl; clear q0 q1; go_simp; first | done | with_reducible rfl)
  try simp only [Act.put, List.setIfInBounds_toArray, List.set_cons_zero, List.set_cons_succ]
  refine wpAnyH_take (i := 6) (oi := ⟨some 83, _, _, _, _, _⟩) (v := ?_) rfl (by kernel_rfl) (by kernel_rfl) (by kernel_rfl) (fun _ _ _ h => h) (Or.inl ⟨by rfl, ?_⟩) (by assumption) ?_
  rotate_left
  focus (intro w hSw; (try dsimp only at hSw); go_simp; first | done | with_reducible rfl)
  try simp only [Act.put, List.setIfInBounds_toArray, List.set_cons_zero, List.set_cons_succ]
  refine wpAnyH_take (i := 7) (oi := ⟨some 84, _, _, _, _, _⟩) (v := ?_) rfl (by kernel_rfl) (by kernel_rfl) (by kernel_rfl) (fun _ _ _ h => h) (Or.inl ⟨by rfl, ?_⟩) (by assumption) ?_
  rotate_left
  focus (intro w hSw; obtain ⟨q0, q1⟩ := hSw.out; have e0 := hb_at q0 0 rfl; have e1 := hb_at q0 1 rfl; have x0 := hb_at q1 0 rfl; have x1 := hb_at q1 1 rfl; have x2 := hb_at q1 2 rfl; have x3 := hb_at q1 3 rfl; have x4 := hb_at q1 4 rfl; have x5 := hb_at q1 5 rfl; have x6 := hb_at q1 6 rfl; have x7 := hb_at q1 7 rfl; clear q0 q1; go_simp; first | done | with_reducible rfl)
  try simp only [Act.put, List.setIfInBounds_toArray, List.set_cons_zero, List.set_cons_succ]
  refine wpAnyH_take (i := 10) (oi := ⟨some 87, _, _, _, _, _⟩) (v := ?_) rfl (by kernel_rfl) (by kernel_rfl) (by kernel_rfl) (fun _ _ _ h => h) (Or.inl ⟨by rfl, ?_⟩) (by assumption) ?_
  rotate_left
  focus (intro w hSw; (try dsimp only at hSw); go_simp; first | done | with_reducible rfl)
  try simp only [Act.put, List.setIfInBounds_toArray, List.set_cons_zero, List.set_cons_succ]
  refine wpAnyH_take (i := 11) (oi := ⟨some 88, _, _, _, _, _⟩) (v := ?_) rfl (by kernel_rfl) (by kernel_rfl) (by kernel_rfl) (fun _ _ _ h => h) (Or.inl ⟨by rfl, ?_⟩) (by assumption) ?_
  rotate_left
  focus (intro w hSw; (try dsimp only at hSw); go_simp; first | done | with_reducible rfl)
  try simp only [Act.put, List.setIfInBounds_toArray, List.set_cons_zero, List.set_cons_succ]
  refine wpAnyH_take (i := 12) (oi := ⟨some 89, _, _, _, _, _⟩) (v := ?_) rfl (by kernel_rfl) (by kernel_rfl) (by kernel_rfl) (fun _ _ _ h => h) (Or.inl ⟨by rfl, ?_⟩) (by assumption) ?_
  rotate_left
  focus (intro w hSw; (try dsimp only at hSw); go_simp; first | done | with_reducible rfl)
  try simp only [Act.put, List.setIfInBounds_toArray, List.set_cons_zero, List.set_cons_succ]
  refine wpAnyH_take (i := 13) (oi := ⟨some 90, _, _, _, _, _⟩) (v := ?_) rfl (by kernel_rfl) (by kernel_rfl) (by kernel_rfl) (fun _ _ _ h => h) (Or.inl ⟨by rfl, ?_⟩) (by assumption) ?_
  rotate_left
  focus (intro w hSw; obtain ⟨q0, q1⟩ := hSw.out; have e0 := hb_at q0 0 rfl; have e1 := hb_at q0 1 rfl; have x0 := hb_at q1 0 rfl; have x1 := hb_at q1 1 rfl; have x2 := hb_at q1 2 rfl; have x3 := hb_at q1 3 rfl; have x4 := hb_at q1 4 rfl; have x5 := hb_at q1 5 rfl; have x6 := hb_at q1 6 rfl; have x7 := hb_at q1 7 rfl; clear q0 q1; go_simp; first | done | with_reducible rfl)
  try simp only [Act.put, List.setIfInBounds_toArray, List.set_cons_zero, List.set_cons_succ]
  refine wpAnyH_take (i := 14) (oi := ⟨some 91, _, _, _, _, _⟩) (v := ?_) rfl (by kernel_rfl) (by kernel_rfl) (by kernel_rfl) (fun _ _ _ h => h) (Or.inl ⟨by rfl, ?_⟩) (by assumption) ?_
  rotate_left
  focus (intro w hSw; (try dsimp only at hSw); go_simp; first | done | with_reducible rfl)
  try simp only [Act.put, List.setIfInBounds_toArray, List.set_cons_zero, List.set_cons_succ]
  refine wpAnyH_take (i := 15) (oi := ⟨some 92, _, _, _, _, _⟩) (v := ?_) rfl (by kernel_rfl) (by kernel_rfl) (by kernel_rfl) (fun _ _ _ h => h) (Or.inl ⟨by rfl, ?_⟩) (by assumption) ?_
  rotate_left
  focus (intro w hSw; obtain ⟨q0, q1⟩ := hSw.out; have e0 := hb_at q0 0 rfl; have e1 := hb_at q0 1 rfl; have x0 := hb_at q1 0 rfl; have x1 := hb_at q1 1 rfl; have x2 := hb_at q1 2 rfl; have x3 := hb_at q1 3 rfl; have x4 := hb_at q1 4 rfl; have x5 := hb_at q1 5 rfl; have x6 := hb_at q1 6 rfl; have x7 := hb_at q1 7 rfl; clear q0 q1; go_simp; first | done | with_reducible rfl)
  try simp only [Act.put, List.setIfInBounds_toArray, List.set_cons_zero, List.set_cons_succ]
  refine wpAnyH_take (i := 16) (oi := ⟨some 93, _, _, _, _, _⟩) (v := ?_) rfl (by kernel_rfl) (by kernel_rfl) (by kernel_rfl) (fun _ _ _ h => h) (Or.inl ⟨by rfl, ?_⟩) (by assumption) ?_
  rotate_left
  focus (intro w hSw; (try dsimp only at hSw); go_simp; first | done | with_reducible rfl)
  try simp only [Act.put, List.setIfInBounds_toArray, List.set_cons_zero, List.set_cons_succ]
  refine wpAnyH_take (i := 17) (oi := ⟨some 94, _, _, _, _, _⟩) (v := ?_) rfl (by kernel_rfl) (by kernel_rfl) (by kernel_rfl) (fun _ _ _ h => h) (Or.inl ⟨by rfl, ?_⟩) (by assumption) ?_
  rotate_left
  focus (intro w hSw; obtain ⟨q0, q1⟩ := hSw.out; have e0 := hb_at q0 0 rfl; have e1 := hb_at q0 1 rfl; have x0 := hb_at q1 0 rfl; have x1 := hb_at q1 1 rfl; have x2 := hb_at q1 2 rfl; have x3 := hb_at q1 3 rfl; have x4 := hb_at q1 4 rfl; have x5 := hb_at q1 5 rfl; have x6 := hb_at q1 6 rfl; have x7 := hb_at q1 7 rfl; clear q0 q1; go_simp; first | done | with_reducible rfl)
  try simp only [Act.put, List.setIfInBounds_toArray, List.set_cons_zero, List.set_cons_succ]
  refine wpAnyH_ready (rs := [8]) (by kernel_rfl) (by simp) ?_
  refine AllReadyH.cons (o := ⟨some 85, _, _, _, _, _⟩) rfl (fun K hK => ?_) AllReadyH.nil
  go_simp
  (go_at_call 28; (with_reducible refine (HI1.out.drew.sto.rename (by omega) name dst HS.out HD.out).mono ?_); rintro e w2 hop; obtain ⟨c, A', rfl, hS, hdd, hfr⟩ := hop.did; have HI2 := Lib.hid (HI1.out.drew.fsteps hS hfr); have HDD := Lib.hid hdd; clear hS hdd hfr)
  go_wp2_with fail
  refine hK.out _ _ (HI2.out.s) (fun hNew => ?_)
  clear hK K
  have hHeld := hNew
  try simp only [Act.put, List.setIfInBounds_toArray, List.set_cons_zero, List.set_cons_succ]
  refine wpAnyH_ready (rs := [9]) (by kernel_rfl) (by simp) ?_
  refine AllReadyH.cons (o := ⟨some 86, _, _, _, _, _⟩) rfl (fun K hK => ?_) AllReadyH.nil
  go_simp
  (go_at_call 11; (with_reducible refine (no_any _ _).mono ?_); rintro e w9 ⟨rfl, rfl⟩)
  go_wp2_with fail
  refine hK.out _ _ (HI2.out.s) (fun hNew => ?_)
  clear hK K
  have hHeld := hNew
  try simp only [Act.put, List.setIfInBounds_toArray, List.set_cons_zero, List.set_cons_succ]
  refine wpAnyH_ready (rs := [18]) (by kernel_rfl) (by simp) ?_
  refine AllReadyH.cons (o := ⟨some 95, _, _, _, _, _⟩) rfl (fun K hK => ?_) AllReadyH.nil
  go_simp
  (go_at_call 36; (with_reducible refine (HI2.out.ref.rename (by omega) HI2.out.size name dst HS.out HD.out).mono ?_); rintro e w3 ⟨⟨c2, rfl⟩, hR, hfr⟩; have HI9 := Lib.hid (HI2.out.rsteps hR hfr); clear hR hfr)
  go_wp2_with fail
  refine hK.out _ _ (HI9.out.s) (fun hNew => ?_)
  clear hK K
  have hHeld := hNew
  try simp only [Act.put, List.setIfInBounds_toArray, List.set_cons_zero, List.set_cons_succ]
  refine wpAnyH_take (i := 19) (oi := ⟨some 96, _, _, _, _, _⟩) (v := ?_) rfl (by kernel_rfl) (by kernel_rfl) (by kernel_rfl) (fun _ _ _ h => h) (Or.inl ⟨by rfl, ?_⟩) (by assumption) ?_
  rotate_left
  focus (intro w hSw; (try dsimp only at hSw); go_simp; first | done | with_reducible rfl)
  try simp only [Act.put, List.setIfInBounds_toArray, List.set_cons_zero, List.set_cons_succ]
  refine wpAnyH_take (i := 20) (oi := ⟨some 4, _, _, _, _, _⟩) (v := ?_) rfl (by kernel_rfl) (by kernel_rfl) (by kernel_rfl) (fun _ _ _ h => h) (Or.inl ⟨by rfl, ?_⟩) (by assumption) ?_
  rotate_left
  focus (intro w hSw; (try dsimp only at hSw); go_simp; first | done | with_reducible rfl)
  try simp only [Act.put, List.setIfInBounds_toArray, List.set_cons_zero, List.set_cons_succ]
  refine wpAnyH_done (by kernel_rfl) ?_ _
  clear hHeld
  go_wp2
  go_ret
  obtain ⟨hps, hbl⟩ := HI9.out.fin (k := k + 2) (by omega) (by omega)
  exact ⟨⟨_, rfl⟩, ⟨F, r, A', hps, (did_of HAE.out HDD.out fun h => .inr (.inr (.inr (.inl ⟨rfl, h⟩)))), fun _ => rfl⟩, hbl⟩
set_option maxRecDepth 100000 in
set_option maxHeartbeats 4000000 in
theorem do_remove {w : World} {B P F r k : Nat} {A : Fs} {a a0 : Ac} (hae : a0 = a) (h : PairS w B P F r A k) (hk : k ≤ 900) (ha : AcOk w a) (h0 : a.kind = 5) :
    Calls Try.prog 14 #[.pointer (some ⟨P, 0, none⟩), .agg #[.int .i64 a.kind, .string a.name, .string a.dst, .int .i64 a.at_, .int .i64 a.n, .int .u8 a.by_, .slice a.tao a.zs.length a.tc, .slice a.fo a.fl.length a.fc]] w (BothP a0 B P F A k w) := by
  have HAE := Lib.hid hae
  clear hae
  obtain ⟨kind, name, dst, at_, n, by_, tao, zs, tc, fo, fl, fc⟩ := a
  obtain ⟨⟨⟨hp1, hp2⟩, hn1, hn2⟩, ⟨hs, hd⟩, hz, hzl, hf, hfl⟩ := ha
  dsimp only at h0 hp1 hp2 hn1 hn2 hs hd hz hzl hf hfl ⊢
  subst h0
  have HS := Lib.hid hs
  have HD := Lib.hid hd
  have HP := Lib.hid (And.intro hp1 hp2)
  have HNN := Lib.hid (And.intro hn1 hn2)
  have HZ := Lib.hid hz
  have HF := Lib.hid hf
  have HI1 := Lib.hid (h.start #[.int .i64 5, .string name, .string dst, .int .i64 at_, .int .i64 n, .int .u8 by_, .slice tao zs.length tc, .slice fo fl.length fc])
  clear hs hd hp1 hp2 hn1 hn2 hz hf h
  obtain ⟨X, hX⟩ : ∃ X, X = w.heap.size := ⟨_, rfl⟩
  rw [← hX] at HI1
  have y0 : (w.alloc (.cells #[.int .i64 5, .string name, .string dst, .int .i64 at_, .int .i64 n, .int .u8 by_, .slice tao zs.length tc, .slice fo fl.length fc] 39)).cell? ⟨w.heap.size, 0, none⟩ = some (.int .i64 5) := by rw [← hX]; exact hb_at HI1.out.box 0 rfl
  go_enter Try.func14, Try.ntmps14
  go_upto_region 12 with fail
  rw [← hX]
  clear y0 hX
  generalize w.alloc (.cells #[.int .i64 5, .string name, .string dst, .int .i64 at_, .int .i64 n, .int .u8 by_, .slice tao zs.length tc, .slice fo fl.length fc] 39) = w1 at *
  refine wp_region_held_drew (S := fun w' => RowKit.Hid (DoS P X F r #[.int .i64 5, .string name, .string dst, .int .i64 at_, .int .i64 n, .int .u8 by_, .slice tao zs.length tc, .slice fo fl.length fc] w')) (by kernel_rfl) (by exact HI1.out.drew.s) (fun hHeld => ?_)
  refine wpAnyH_take (i := 0) (oi := ⟨some 99, _, _, _, _, _⟩) (v := ?_) rfl (by kernel_rfl) (by kernel_rfl) (by kernel_rfl) (fun _ _ _ h => h) (Or.inl ⟨by rfl, ?_⟩) (by assumption) ?_
  rotate_left
  focus (intro w hSw; (try dsimp only at hSw); go_simp; first | done | with_reducible rfl)
  try simp only [Act.put, List.setIfInBounds_toArray, List.set_cons_zero, List.set_cons_succ]
  refine wpAnyH_take (i := 1) (oi := ⟨some 100, _, _, _, _, _⟩) (v := ?_) rfl (by kernel_rfl) (by kernel_rfl) (by kernel_rfl) (fun _ _ _ h => h) (Or.inl ⟨by rfl, ?_⟩) (by assumption) ?_
  rotate_left
  focus (intro w hSw; (try dsimp only at hSw); go_simp; first | done | with_reducible rfl)
  try simp only [Act.put, List.setIfInBounds_toArray, List.set_cons_zero, List.set_cons_succ]
  refine wpAnyH_take (i := 2) (oi := ⟨some 101, _, _, _, _, _⟩) (v := ?_) rfl (by kernel_rfl) (by kernel_rfl) (by kernel_rfl) (fun _ _ _ h => h) (Or.inl ⟨by rfl, ?_⟩) (by assumption) ?_
  rotate_left
  focus (intro w hSw; (try dsimp only at hSw); go_simp; first | done | with_reducible rfl)
  try simp only [Act.put, List.setIfInBounds_toArray, List.set_cons_zero, List.set_cons_succ]
  refine wpAnyH_take (i := 3) (oi := ⟨some 102, _, _, _, _, _⟩) (v := ?_) rfl (by kernel_rfl) (by kernel_rfl) (by kernel_rfl) (fun _ _ _ h => h) (Or.inl ⟨by rfl, ?_⟩) (by assumption) ?_
  rotate_left
  focus (intro w hSw; obtain ⟨q0, q1⟩ := hSw.out; have e0 := hb_at q0 0 rfl; have e1 := hb_at q0 1 rfl; have x0 := hb_at q1 0 rfl; have x1 := hb_at q1 1 rfl; have x2 := hb_at q1 2 rfl; have x3 := hb_at q1 3 rfl; have x4 := hb_at q1 4 rfl; have x5 := hb_at q1 5 rfl; have x6 := hb_at q1 6 rfl; have x7 := hb_at q1 7 rfl; clear q0 q1; go_simp; first | done | with_reducible rfl)
  try simp only [Act.put, List.setIfInBounds_toArray, List.set_cons_zero, List.set_cons_succ]
  refine wpAnyH_take (i := 4) (oi := ⟨some 103, _, _, _, _, _⟩) (v := ?_) rfl (by kernel_rfl) (by kernel_rfl) (by kernel_rfl) (fun _ _ _ h => h) (Or.inl ⟨by rfl, ?_⟩) (by assumption) ?_
  rotate_left
  focus (intro w hSw; (try dsimp only at hSw); go_simp; first | done | with_reducible rfl)
  try simp only [Act.put, List.setIfInBounds_toArray, List.set_cons_zero, List.set_cons_succ]
  refine wpAnyH_take (i := 5) (oi := ⟨some 104, _, _, _, _, _⟩) (v := ?_) rfl (by kernel_rfl) (by kernel_rfl) (by kernel_rfl) (fun _ _ _ h => h) (Or.inl ⟨by rfl, ?_⟩) (by assumption) ?_
  rotate_left
  focus (intro w hSw; obtain ⟨q0, q1⟩ := hSw.out; have e0 := hb_at q0 0 rfl; have e1 := hb_at q0 1 rfl; have x0 := hb_at q1 0 rfl; have x1 := hb_at q1 1 rfl; have x2 := hb_at q1 2 rfl; have x3 := hb_at q1 3 rfl; have x4 := hb_at q1 4 rfl; have x5 := hb_at q1 5 rfl; have x6 := hb_at q1 6 rfl; have x7 := hb_at q1 7 rfl; clear q0 q1; go_simp; first | done | with_reducible rfl)
  try simp only [Act.put, List.setIfInBounds_toArray, List.set_cons_zero, List.set_cons_succ]
  refine wpAnyH_take (i := 8) (oi := ⟨some 107, _, _, _, _, _⟩) (v := ?_) rfl (by kernel_rfl) (by kernel_rfl) (by kernel_rfl) (fun _ _ _ h => h) (Or.inl ⟨by rfl, ?_⟩) (by assumption) ?_
  rotate_left
  focus (intro w hSw; (try dsimp only at hSw); go_simp; first | done | with_reducible rfl)
  try simp only [Act.put, List.setIfInBounds_toArray, List.set_cons_zero, List.set_cons_succ]
  refine wpAnyH_take (i := 9) (oi := ⟨some 108, _, _, _, _, _⟩) (v := ?_) rfl (by kernel_rfl) (by kernel_rfl) (by kernel_rfl) (fun _ _ _ h => h) (Or.inl ⟨by rfl, ?_⟩) (by assumption) ?_
  rotate_left
  focus (intro w hSw; (try dsimp only at hSw); go_simp; first | done | with_reducible rfl)
  try simp only [Act.put, List.setIfInBounds_toArray, List.set_cons_zero, List.set_cons_succ]
  refine wpAnyH_take (i := 10) (oi := ⟨some 109, _, _, _, _, _⟩) (v := ?_) rfl (by kernel_rfl) (by kernel_rfl) (by kernel_rfl) (fun _ _ _ h => h) (Or.inl ⟨by rfl, ?_⟩) (by assumption) ?_
  rotate_left
  focus (intro w hSw; (try dsimp only at hSw); go_simp; first | done | with_reducible rfl)
  try simp only [Act.put, List.setIfInBounds_toArray, List.set_cons_zero, List.set_cons_succ]
  refine wpAnyH_take (i := 11) (oi := ⟨some 110, _, _, _, _, _⟩) (v := ?_) rfl (by kernel_rfl) (by kernel_rfl) (by kernel_rfl) (fun _ _ _ h => h) (Or.inl ⟨by rfl, ?_⟩) (by assumption) ?_
  rotate_left
  focus (intro w hSw; obtain ⟨q0, q1⟩ := hSw.out; have e0 := hb_at q0 0 rfl; have e1 := hb_at q0 1 rfl; have x0 := hb_at q1 0 rfl; have x1 := hb_at q1 1 rfl; have x2 := hb_at q1 2 rfl; have x3 := hb_at q1 3 rfl; have x4 := hb_at q1 4 rfl; have x5 := hb_at q1 5 rfl; have x6 := hb_at q1 6 rfl; have x7 := hb_at q1 7 rfl; clear q0 q1; go_simp; first | done | with_reducible rfl)
  try simp only [Act.put, List.setIfInBounds_toArray, List.set_cons_zero, List.set_cons_succ]
  refine wpAnyH_take (i := 12) (oi := ⟨some 111, _, _, _, _, _⟩) (v := ?_) rfl (by kernel_rfl) (by kernel_rfl) (by kernel_rfl) (fun _ _ _ h => h) (Or.inl ⟨by rfl, ?_⟩) (by assumption) ?_
  rotate_left
  focus (intro w hSw; (try dsimp only at hSw); go_simp; first | done | with_reducible rfl)
  try simp only [Act.put, List.setIfInBounds_toArray, List.set_cons_zero, List.set_cons_succ]
  refine wpAnyH_take (i := 13) (oi := ⟨some 112, _, _, _, _, _⟩) (v := ?_) rfl (by kernel_rfl) (by kernel_rfl) (by kernel_rfl) (fun _ _ _ h => h) (Or.inl ⟨by rfl, ?_⟩) (by assumption) ?_
  rotate_left
  focus (intro w hSw; obtain ⟨q0, q1⟩ := hSw.out; have e0 := hb_at q0 0 rfl; have e1 := hb_at q0 1 rfl; have x0 := hb_at q1 0 rfl; have x1 := hb_at q1 1 rfl; have x2 := hb_at q1 2 rfl; have x3 := hb_at q1 3 rfl; have x4 := hb_at q1 4 rfl; have x5 := hb_at q1 5 rfl; have x6 := hb_at q1 6 rfl; have x7 := hb_at q1 7 rfl; clear q0 q1; go_simp; first | done | with_reducible rfl)
  try simp only [Act.put, List.setIfInBounds_toArray, List.set_cons_zero, List.set_cons_succ]
  refine wpAnyH_ready (rs := [6]) (by kernel_rfl) (by simp) ?_
  refine AllReadyH.cons (o := ⟨some 105, _, _, _, _, _⟩) rfl (fun K hK => ?_) AllReadyH.nil
  go_simp
  (go_at_call 29; (with_reducible refine (HI1.out.drew.sto.remove (by omega) name HS.out).mono ?_); rintro e w2 hop; obtain ⟨c, A', rfl, hS, hdd, hfr⟩ := hop.did; have HI2 := Lib.hid (HI1.out.drew.fsteps hS hfr); have HDD := Lib.hid hdd; clear hS hdd hfr)
  go_wp2_with fail
  refine hK.out _ _ (HI2.out.s) (fun hNew => ?_)
  clear hK K
  have hHeld := hNew
  try simp only [Act.put, List.setIfInBounds_toArray, List.set_cons_zero, List.set_cons_succ]
  refine wpAnyH_ready (rs := [7]) (by kernel_rfl) (by simp) ?_
  refine AllReadyH.cons (o := ⟨some 106, _, _, _, _, _⟩) rfl (fun K hK => ?_) AllReadyH.nil
  go_simp
  (go_at_call 11; (with_reducible refine (no_any _ _).mono ?_); rintro e w9 ⟨rfl, rfl⟩)
  go_wp2_with fail
  refine hK.out _ _ (HI2.out.s) (fun hNew => ?_)
  clear hK K
  have hHeld := hNew
  try simp only [Act.put, List.setIfInBounds_toArray, List.set_cons_zero, List.set_cons_succ]
  refine wpAnyH_ready (rs := [14]) (by kernel_rfl) (by simp) ?_
  refine AllReadyH.cons (o := ⟨some 113, _, _, _, _, _⟩) rfl (fun K hK => ?_) AllReadyH.nil
  go_simp
  (go_at_call 37; (with_reducible refine (HI2.out.ref.remove (by omega) HI2.out.size name HS.out).mono ?_); rintro e w3 ⟨⟨c2, rfl⟩, hR, hfr⟩; have HI9 := Lib.hid (HI2.out.rsteps hR hfr); clear hR hfr)
  go_wp2_with fail
  refine hK.out _ _ (HI9.out.s) (fun hNew => ?_)
  clear hK K
  have hHeld := hNew
  try simp only [Act.put, List.setIfInBounds_toArray, List.set_cons_zero, List.set_cons_succ]
  refine wpAnyH_take (i := 15) (oi := ⟨some 114, _, _, _, _, _⟩) (v := ?_) rfl (by kernel_rfl) (by kernel_rfl) (by kernel_rfl) (fun _ _ _ h => h) (Or.inl ⟨by rfl, ?_⟩) (by assumption) ?_
  rotate_left
  focus (intro w hSw; (try dsimp only at hSw); go_simp; first | done | with_reducible rfl)
  try simp only [Act.put, List.setIfInBounds_toArray, List.set_cons_zero, List.set_cons_succ]
  refine wpAnyH_take (i := 16) (oi := ⟨some 4, _, _, _, _, _⟩) (v := ?_) rfl (by kernel_rfl) (by kernel_rfl) (by kernel_rfl) (fun _ _ _ h => h) (Or.inl ⟨by rfl, ?_⟩) (by assumption) ?_
  rotate_left
  focus (intro w hSw; (try dsimp only at hSw); go_simp; first | done | with_reducible rfl)
  try simp only [Act.put, List.setIfInBounds_toArray, List.set_cons_zero, List.set_cons_succ]
  refine wpAnyH_done (by kernel_rfl) ?_ _
  clear hHeld
  go_wp2
  go_ret
  obtain ⟨hps, hbl⟩ := HI9.out.fin (k := k + 2) (by omega) (by omega)
  exact ⟨⟨_, rfl⟩, ⟨F, r, A', hps, (did_of HAE.out HDD.out fun h => .inr (.inr (.inr (.inr (.inl ⟨rfl, h⟩))))), fun _ => rfl⟩, hbl⟩
set_option maxRecDepth 100000 in
set_option maxHeartbeats 4000000 in
theorem do_sync {w : World} {B P F r k : Nat} {A : Fs} {a a0 : Ac} (hae : a0 = a) (h : PairS w B P F r A k) (hk : k ≤ 900) (ha : AcOk w a) (h0 : a.kind = 6) :
    Calls Try.prog 14 #[.pointer (some ⟨P, 0, none⟩), .agg #[.int .i64 a.kind, .string a.name, .string a.dst, .int .i64 a.at_, .int .i64 a.n, .int .u8 a.by_, .slice a.tao a.zs.length a.tc, .slice a.fo a.fl.length a.fc]] w (BothP a0 B P F A k w) := by
  have HAE := Lib.hid hae
  clear hae
  obtain ⟨kind, name, dst, at_, n, by_, tao, zs, tc, fo, fl, fc⟩ := a
  obtain ⟨⟨⟨hp1, hp2⟩, hn1, hn2⟩, ⟨hs, hd⟩, hz, hzl, hf, hfl⟩ := ha
  dsimp only at h0 hp1 hp2 hn1 hn2 hs hd hz hzl hf hfl ⊢
  subst h0
  have HS := Lib.hid hs
  have HD := Lib.hid hd
  have HP := Lib.hid (And.intro hp1 hp2)
  have HNN := Lib.hid (And.intro hn1 hn2)
  have HZ := Lib.hid hz
  have HF := Lib.hid hf
  have HI1 := Lib.hid (h.start #[.int .i64 6, .string name, .string dst, .int .i64 at_, .int .i64 n, .int .u8 by_, .slice tao zs.length tc, .slice fo fl.length fc])
  clear hs hd hp1 hp2 hn1 hn2 hz hf h
  obtain ⟨X, hX⟩ : ∃ X, X = w.heap.size := ⟨_, rfl⟩
  rw [← hX] at HI1
  have y0 : (w.alloc (.cells #[.int .i64 6, .string name, .string dst, .int .i64 at_, .int .i64 n, .int .u8 by_, .slice tao zs.length tc, .slice fo fl.length fc] 39)).cell? ⟨w.heap.size, 0, none⟩ = some (.int .i64 6) := by rw [← hX]; exact hb_at HI1.out.box 0 rfl
  go_enter Try.func14, Try.ntmps14
  go_upto_region 14 with fail
  rw [← hX]
  clear y0 hX
  generalize w.alloc (.cells #[.int .i64 6, .string name, .string dst, .int .i64 at_, .int .i64 n, .int .u8 by_, .slice tao zs.length tc, .slice fo fl.length fc] 39) = w1 at *
  refine wp_region_held_drew (S := fun w' => RowKit.Hid (DoS P X F r #[.int .i64 6, .string name, .string dst, .int .i64 at_, .int .i64 n, .int .u8 by_, .slice tao zs.length tc, .slice fo fl.length fc] w')) (by kernel_rfl) (by exact HI1.out.drew.s) (fun hHeld => ?_)
  refine wpAnyH_take (i := 0) (oi := ⟨some 117, _, _, _, _, _⟩) (v := ?_) rfl (by kernel_rfl) (by kernel_rfl) (by kernel_rfl) (fun _ _ _ h => h) (Or.inl ⟨by rfl, ?_⟩) (by assumption) ?_
  rotate_left
  focus (intro w hSw; (try dsimp only at hSw); go_simp; first | done | with_reducible rfl)
  try simp only [Act.put, List.setIfInBounds_toArray, List.set_cons_zero, List.set_cons_succ]
  refine wpAnyH_take (i := 1) (oi := ⟨some 118, _, _, _, _, _⟩) (v := ?_) rfl (by kernel_rfl) (by kernel_rfl) (by kernel_rfl) (fun _ _ _ h => h) (Or.inl ⟨by rfl, ?_⟩) (by assumption) ?_
  rotate_left
  focus (intro w hSw; (try dsimp only at hSw); go_simp; first | done | with_reducible rfl)
  try simp only [Act.put, List.setIfInBounds_toArray, List.set_cons_zero, List.set_cons_succ]
  refine wpAnyH_take (i := 2) (oi := ⟨some 119, _, _, _, _, _⟩) (v := ?_) rfl (by kernel_rfl) (by kernel_rfl) (by kernel_rfl) (fun _ _ _ h => h) (Or.inl ⟨by rfl, ?_⟩) (by assumption) ?_
  rotate_left
  focus (intro w hSw; (try dsimp only at hSw); go_simp; first | done | with_reducible rfl)
  try simp only [Act.put, List.setIfInBounds_toArray, List.set_cons_zero, List.set_cons_succ]
  refine wpAnyH_take (i := 3) (oi := ⟨some 120, _, _, _, _, _⟩) (v := ?_) rfl (by kernel_rfl) (by kernel_rfl) (by kernel_rfl) (fun _ _ _ h => h) (Or.inl ⟨by rfl, ?_⟩) (by assumption) ?_
  rotate_left
  focus (intro w hSw; obtain ⟨q0, q1⟩ := hSw.out; have e0 := hb_at q0 0 rfl; have e1 := hb_at q0 1 rfl; have x0 := hb_at q1 0 rfl; have x1 := hb_at q1 1 rfl; have x2 := hb_at q1 2 rfl; have x3 := hb_at q1 3 rfl; have x4 := hb_at q1 4 rfl; have x5 := hb_at q1 5 rfl; have x6 := hb_at q1 6 rfl; have x7 := hb_at q1 7 rfl; clear q0 q1; go_simp; first | done | with_reducible rfl)
  try simp only [Act.put, List.setIfInBounds_toArray, List.set_cons_zero, List.set_cons_succ]
  refine wpAnyH_take (i := 6) (oi := ⟨some 123, _, _, _, _, _⟩) (v := ?_) rfl (by kernel_rfl) (by kernel_rfl) (by kernel_rfl) (fun _ _ _ h => h) (Or.inl ⟨by rfl, ?_⟩) (by assumption) ?_
  rotate_left
  focus (intro w hSw; (try dsimp only at hSw); go_simp; first | done | with_reducible rfl)
  try simp only [Act.put, List.setIfInBounds_toArray, List.set_cons_zero, List.set_cons_succ]
  refine wpAnyH_take (i := 7) (oi := ⟨some 124, _, _, _, _, _⟩) (v := ?_) rfl (by kernel_rfl) (by kernel_rfl) (by kernel_rfl) (fun _ _ _ h => h) (Or.inl ⟨by rfl, ?_⟩) (by assumption) ?_
  rotate_left
  focus (intro w hSw; (try dsimp only at hSw); go_simp; first | done | with_reducible rfl)
  try simp only [Act.put, List.setIfInBounds_toArray, List.set_cons_zero, List.set_cons_succ]
  refine wpAnyH_take (i := 8) (oi := ⟨some 125, _, _, _, _, _⟩) (v := ?_) rfl (by kernel_rfl) (by kernel_rfl) (by kernel_rfl) (fun _ _ _ h => h) (Or.inl ⟨by rfl, ?_⟩) (by assumption) ?_
  rotate_left
  focus (intro w hSw; (try dsimp only at hSw); go_simp; first | done | with_reducible rfl)
  try simp only [Act.put, List.setIfInBounds_toArray, List.set_cons_zero, List.set_cons_succ]
  refine wpAnyH_take (i := 9) (oi := ⟨some 126, _, _, _, _, _⟩) (v := ?_) rfl (by kernel_rfl) (by kernel_rfl) (by kernel_rfl) (fun _ _ _ h => h) (Or.inl ⟨by rfl, ?_⟩) (by assumption) ?_
  rotate_left
  focus (intro w hSw; obtain ⟨q0, q1⟩ := hSw.out; have e0 := hb_at q0 0 rfl; have e1 := hb_at q0 1 rfl; have x0 := hb_at q1 0 rfl; have x1 := hb_at q1 1 rfl; have x2 := hb_at q1 2 rfl; have x3 := hb_at q1 3 rfl; have x4 := hb_at q1 4 rfl; have x5 := hb_at q1 5 rfl; have x6 := hb_at q1 6 rfl; have x7 := hb_at q1 7 rfl; clear q0 q1; go_simp; first | done | with_reducible rfl)
  try simp only [Act.put, List.setIfInBounds_toArray, List.set_cons_zero, List.set_cons_succ]
  refine wpAnyH_ready (rs := [4]) (by kernel_rfl) (by simp) ?_
  refine AllReadyH.cons (o := ⟨some 121, _, _, _, _, _⟩) rfl (fun K hK => ?_) AllReadyH.nil
  go_simp
  (go_at_call 18; (with_reducible refine (HI1.out.drew.sto.sync (by omega)).mono ?_); rintro e w2 hop; obtain ⟨c, A', rfl, hS, hdd, hfr⟩ := hop.did; have HI2 := Lib.hid (HI1.out.drew.fsteps hS hfr); have HDD := Lib.hid hdd; clear hS hdd hfr)
  go_wp2_with fail
  refine hK.out _ _ (HI2.out.s) (fun hNew => ?_)
  clear hK K
  have hHeld := hNew
  try simp only [Act.put, List.setIfInBounds_toArray, List.set_cons_zero, List.set_cons_succ]
  refine wpAnyH_ready (rs := [5]) (by kernel_rfl) (by simp) ?_
  refine AllReadyH.cons (o := ⟨some 122, _, _, _, _, _⟩) rfl (fun K hK => ?_) AllReadyH.nil
  go_simp
  (go_at_call 11; (with_reducible refine (no_any _ _).mono ?_); rintro e w9 ⟨rfl, rfl⟩)
  go_wp2_with fail
  refine hK.out _ _ (HI2.out.s) (fun hNew => ?_)
  clear hK K
  have hHeld := hNew
  try simp only [Act.put, List.setIfInBounds_toArray, List.set_cons_zero, List.set_cons_succ]
  refine wpAnyH_ready (rs := [10]) (by kernel_rfl) (by simp) ?_
  refine AllReadyH.cons (o := ⟨some 127, _, _, _, _, _⟩) rfl (fun K hK => ?_) AllReadyH.nil
  go_simp
  (go_at_call 38; (with_reducible refine (HI2.out.ref.sync (by omega) HI2.out.size).mono ?_); rintro e w3 ⟨⟨c2, rfl⟩, hR, hfr⟩; have HI9 := Lib.hid (HI2.out.rsteps hR hfr); clear hR hfr)
  go_wp2_with fail
  refine hK.out _ _ (HI9.out.s) (fun hNew => ?_)
  clear hK K
  have hHeld := hNew
  try simp only [Act.put, List.setIfInBounds_toArray, List.set_cons_zero, List.set_cons_succ]
  refine wpAnyH_take (i := 11) (oi := ⟨some 128, _, _, _, _, _⟩) (v := ?_) rfl (by kernel_rfl) (by kernel_rfl) (by kernel_rfl) (fun _ _ _ h => h) (Or.inl ⟨by rfl, ?_⟩) (by assumption) ?_
  rotate_left
  focus (intro w hSw; (try dsimp only at hSw); go_simp; first | done | with_reducible rfl)
  try simp only [Act.put, List.setIfInBounds_toArray, List.set_cons_zero, List.set_cons_succ]
  refine wpAnyH_take (i := 12) (oi := ⟨some 4, _, _, _, _, _⟩) (v := ?_) rfl (by kernel_rfl) (by kernel_rfl) (by kernel_rfl) (fun _ _ _ h => h) (Or.inl ⟨by rfl, ?_⟩) (by assumption) ?_
  rotate_left
  focus (intro w hSw; (try dsimp only at hSw); go_simp; first | done | with_reducible rfl)
  try simp only [Act.put, List.setIfInBounds_toArray, List.set_cons_zero, List.set_cons_succ]
  refine wpAnyH_done (by kernel_rfl) ?_ _
  clear hHeld
  go_wp2
  go_ret
  obtain ⟨hps, hbl⟩ := HI9.out.fin (k := k + 2) (by omega) (by omega)
  exact ⟨⟨_, rfl⟩, ⟨F, r, A', hps, (did_of HAE.out HDD.out fun h => .inr (.inr (.inr (.inr (.inr ⟨rfl, h⟩))))), fun _ => rfl⟩, hbl⟩
end Go.Proofs.Ytmfphnhdahaooaa
/- A call of both stores: the other ones. -/
namespace Go.Proofs.Ytmfphnhdahaooaa
open Go.RowKit Go.Maps
set_option linter.unusedSimpArgs false
set_option linter.unusedVariables false
section
variable {B P X F r k1 k2 : Nat} {cs : Array Value} {A : Fs} {w0 w : World}
theorem DoI.rset (h : DoI B P X F r cs A k1 k2 w0 w) (j : Nat) (v : Value) (hv : ∀ cap fv dv lv tv fa pw off, ∃ fa' pw' off', (rsC cap fv dv lv tv fa pw off).setIfInBounds j v = rsC cap fv dv lv tv fa' pw' off') : DoI B P X F r cs A k1 k2 w0 (w.setCell ⟨r, j, none⟩ v) := by
  obtain ⟨cap, fv, dv, lv, tv, fs, ds, ls, ts, hR⟩ := h.ref
  obtain ⟨fa, pw, off, h0⟩ := hR.store
  obtain ⟨fa', pw', off', he⟩ := hv cap fv dv lv tv fa pw off
  have h1 := hb_set_same h0 j v
  rw [he] at h1
  obtain ⟨hR2, hf⟩ := hR.step ⟨⟨fa', pw', off', h1⟩, grown_at w r j v⟩
  exact h.rsteps ⟨cap, fv, dv, lv, tv, fs, ds, ls, ts, hR2⟩ hf
theorem DoI.stored5 (h : DoI B P X F r cs A k1 k2 w0 w) (x : Int) : DoI B P X F r cs A k1 k2 w0 (w.setCell ⟨r, 5, none⟩ (.int .i64 x)) :=
  h.rset 5 _ fun cap fv dv lv tv fa pw off => ⟨x, pw, off, rfl⟩
theorem DoI.stored6 (h : DoI B P X F r cs A k1 k2 w0 w) (x : Int) : DoI B P X F r cs A k1 k2 w0 (w.setCell ⟨r, 6, none⟩ (.int .i64 x)) :=
  h.rset 6 _ fun cap fv dv lv tv fa pw off => ⟨fa, x, off, rfl⟩
end
set_option maxRecDepth 100000 in
set_option maxHeartbeats 4000000 in
theorem do_write0 {w : World} {B P F r k : Nat} {A : Fs} {a a0 : Ac} (hae : a0 = a) (h : PairS w B P F r A k) (hk : k ≤ 900) (ha : AcOk w a) (h0 : a.kind = 0) :
    Calls Try.prog 14 #[.pointer (some ⟨P, 0, none⟩), .agg #[.int .i64 a.kind, .string a.name, .string a.dst, .int .i64 a.at_, .int .i64 a.n, .int .u8 a.by_, .slice a.tao a.zs.length a.tc, .slice a.fo a.fl.length a.fc]] w (BothP a0 B P F A k w) := by
  have HAE := Lib.hid hae
  clear hae
  obtain ⟨kind, name, dst, at_, n, by_, tao, zs, tc, fo, fl, fc⟩ := a
  obtain ⟨⟨⟨hp1, hp2⟩, hn1, hn2⟩, ⟨hs, hd⟩, hz, hzl, hf, hfl⟩ := ha
  dsimp only at h0 hp1 hp2 hn1 hn2 hs hd hz hzl hf hfl ⊢
  subst h0
  have HS := Lib.hid hs
  have HD := Lib.hid hd
  have HP := Lib.hid (And.intro hp1 hp2)
  have HNN := Lib.hid (And.intro hn1 hn2)
  have HZ := Lib.hid hz
  have HF := Lib.hid hf
  have HI1 := Lib.hid (h.start #[.int .i64 0, .string name, .string dst, .int .i64 at_, .int .i64 n, .int .u8 by_, .slice tao zs.length tc, .slice fo fl.length fc])
  clear hs hd hp1 hp2 hn1 hn2 hz hf h
  obtain ⟨X, hX⟩ : ∃ X, X = w.heap.size := ⟨_, rfl⟩
  rw [← hX] at HI1
  have y0 : (w.alloc (.cells #[.int .i64 0, .string name, .string dst, .int .i64 at_, .int .i64 n, .int .u8 by_, .slice tao zs.length tc, .slice fo fl.length fc] 39)).cell? ⟨w.heap.size, 0, none⟩ = some (.int .i64 0) := by rw [← hX]; exact hb_at HI1.out.box 0 rfl
  go_enter Try.func14, Try.ntmps14
  go_upto_region 4 with fail
  rw [← hX]
  clear y0 hX
  generalize w.alloc (.cells #[.int .i64 0, .string name, .string dst, .int .i64 at_, .int .i64 n, .int .u8 by_, .slice tao zs.length tc, .slice fo fl.length fc] 39) = w1 at *
  refine wp_region_held_drew (S := fun w' => RowKit.Hid (DoS P X F r #[.int .i64 0, .string name, .string dst, .int .i64 at_, .int .i64 n, .int .u8 by_, .slice tao zs.length tc, .slice fo fl.length fc] w')) (by kernel_rfl) (by exact HI1.out.drew.s) (fun hHeld => ?_)
  refine wpAnyH_take (i := 0) (oi := ⟨some 10, _, _, _, _, _⟩) (v := ?_) rfl (by kernel_rfl) (by kernel_rfl) (by kernel_rfl) (fun _ _ _ h => h) (Or.inl ⟨by rfl, ?_⟩) (by assumption) ?_
  rotate_left
  focus (intro w hSw; (try dsimp only at hSw); go_simp; first | done | with_reducible rfl)
  try simp only [Act.put, List.setIfInBounds_toArray, List.set_cons_zero, List.set_cons_succ]
  refine wpAnyH_take (i := 1) (oi := ⟨some 11, _, _, _, _, _⟩) (v := ?_) rfl (by kernel_rfl) (by kernel_rfl) (by kernel_rfl) (fun _ _ _ h => h) (Or.inl ⟨by rfl, ?_⟩) (by assumption) ?_
  rotate_left
  focus (intro w hSw; (try dsimp only at hSw); go_simp; first | done | with_reducible rfl)
  try simp only [Act.put, List.setIfInBounds_toArray, List.set_cons_zero, List.set_cons_succ]
  refine wpAnyH_take (i := 2) (oi := ⟨some 12, _, _, _, _, _⟩) (v := ?_) rfl (by kernel_rfl) (by kernel_rfl) (by kernel_rfl) (fun _ _ _ h => h) (Or.inl ⟨by rfl, ?_⟩) (by assumption) ?_
  rotate_left
  focus (intro w hSw; (try dsimp only at hSw); go_simp; first | done | with_reducible rfl)
  try simp only [Act.put, List.setIfInBounds_toArray, List.set_cons_zero, List.set_cons_succ]
  refine wpAnyH_take (i := 3) (oi := ⟨some 13, _, _, _, _, _⟩) (v := ?_) rfl (by kernel_rfl) (by kernel_rfl) (by kernel_rfl) (fun _ _ _ h => h) (Or.inl ⟨by rfl, ?_⟩) (by assumption) ?_
  rotate_left
  focus (intro w hSw; obtain ⟨q0, q1⟩ := hSw.out; have e0 := hb_at q0 0 rfl; have e1 := hb_at q0 1 rfl; have x0 := hb_at q1 0 rfl; have x1 := hb_at q1 1 rfl; have x2 := hb_at q1 2 rfl; have x3 := hb_at q1 3 rfl; have x4 := hb_at q1 4 rfl; have x5 := hb_at q1 5 rfl; have x6 := hb_at q1 6 rfl; have x7 := hb_at q1 7 rfl; clear q0 q1; go_simp; first | done | with_reducible rfl)
  try simp only [Act.put, List.setIfInBounds_toArray, List.set_cons_zero, List.set_cons_succ]
  refine wpAnyH_take (i := 4) (oi := ⟨some 14, _, _, _, _, _⟩) (v := ?_) rfl (by kernel_rfl) (by kernel_rfl) (by kernel_rfl) (fun _ _ _ h => h) (Or.inl ⟨by rfl, ?_⟩) (by assumption) ?_
  rotate_left
  focus (intro w hSw; (try dsimp only at hSw); go_simp; first | done | with_reducible rfl)
  try simp only [Act.put, List.setIfInBounds_toArray, List.set_cons_zero, List.set_cons_succ]
  refine wpAnyH_take (i := 5) (oi := ⟨some 15, _, _, _, _, _⟩) (v := ?_) rfl (by kernel_rfl) (by kernel_rfl) (by kernel_rfl) (fun _ _ _ h => h) (Or.inl ⟨by rfl, ?_⟩) (by assumption) ?_
  rotate_left
  focus (intro w hSw; obtain ⟨q0, q1⟩ := hSw.out; have e0 := hb_at q0 0 rfl; have e1 := hb_at q0 1 rfl; have x0 := hb_at q1 0 rfl; have x1 := hb_at q1 1 rfl; have x2 := hb_at q1 2 rfl; have x3 := hb_at q1 3 rfl; have x4 := hb_at q1 4 rfl; have x5 := hb_at q1 5 rfl; have x6 := hb_at q1 6 rfl; have x7 := hb_at q1 7 rfl; clear q0 q1; go_simp; first | done | with_reducible rfl)
  try simp only [Act.put, List.setIfInBounds_toArray, List.set_cons_zero, List.set_cons_succ]
  refine wpAnyH_take (i := 6) (oi := ⟨some 16, _, _, _, _, _⟩) (v := ?_) rfl (by kernel_rfl) (by kernel_rfl) (by kernel_rfl) (fun _ _ _ h => h) (Or.inl ⟨by rfl, ?_⟩) (by assumption) ?_
  rotate_left
  focus (intro w hSw; (try dsimp only at hSw); go_simp; first | done | with_reducible rfl)
  try simp only [Act.put, List.setIfInBounds_toArray, List.set_cons_zero, List.set_cons_succ]
  refine wpAnyH_take (i := 7) (oi := ⟨some 17, _, _, _, _, _⟩) (v := ?_) rfl (by kernel_rfl) (by kernel_rfl) (by kernel_rfl) (fun _ _ _ h => h) (Or.inl ⟨by rfl, ?_⟩) (by assumption) ?_
  rotate_left
  focus (intro w hSw; obtain ⟨q0, q1⟩ := hSw.out; have e0 := hb_at q0 0 rfl; have e1 := hb_at q0 1 rfl; have x0 := hb_at q1 0 rfl; have x1 := hb_at q1 1 rfl; have x2 := hb_at q1 2 rfl; have x3 := hb_at q1 3 rfl; have x4 := hb_at q1 4 rfl; have x5 := hb_at q1 5 rfl; have x6 := hb_at q1 6 rfl; have x7 := hb_at q1 7 rfl; clear q0 q1; go_simp; first | done | with_reducible rfl)
  try simp only [Act.put, List.setIfInBounds_toArray, List.set_cons_zero, List.set_cons_succ]
  refine wpAnyH_take (i := 8) (oi := ⟨some 18, _, _, _, _, _⟩) (v := ?_) rfl (by kernel_rfl) (by kernel_rfl) (by kernel_rfl) (fun _ _ _ h => h) (Or.inl ⟨by rfl, ?_⟩) (by assumption) ?_
  rotate_left
  focus (intro w hSw; obtain ⟨q0, q1⟩ := hSw.out; have e0 := hb_at q0 0 rfl; have e1 := hb_at q0 1 rfl; have x0 := hb_at q1 0 rfl; have x1 := hb_at q1 1 rfl; have x2 := hb_at q1 2 rfl; have x3 := hb_at q1 3 rfl; have x4 := hb_at q1 4 rfl; have x5 := hb_at q1 5 rfl; have x6 := hb_at q1 6 rfl; have x7 := hb_at q1 7 rfl; clear q0 q1; go_simp; first | done | with_reducible rfl)
  try simp only [Act.put, List.setIfInBounds_toArray, List.set_cons_zero, List.set_cons_succ]
  refine wpAnyH_take (i := 12) (oi := ⟨some 22, _, _, _, _, _⟩) (v := ?_) rfl (by kernel_rfl) (by kernel_rfl) (by kernel_rfl) (fun _ _ _ h => h) (Or.inl ⟨by rfl, ?_⟩) (by assumption) ?_
  rotate_left
  focus (intro w hSw; (try dsimp only at hSw); go_simp; first | done | with_reducible rfl)
  try simp only [Act.put, List.setIfInBounds_toArray, List.set_cons_zero, List.set_cons_succ]
  refine wpAnyH_take (i := 13) (oi := ⟨some 23, _, _, _, _, _⟩) (v := ?_) rfl (by kernel_rfl) (by kernel_rfl) (by kernel_rfl) (fun _ _ _ h => h) (Or.inl ⟨by rfl, ?_⟩) (by assumption) ?_
  rotate_left
  focus (intro w hSw; (try dsimp only at hSw); go_simp; first | done | with_reducible rfl)
  try simp only [Act.put, List.setIfInBounds_toArray, List.set_cons_zero, List.set_cons_succ]
  refine wpAnyH_take (i := 14) (oi := ⟨some 24, _, _, _, _, _⟩) (v := ?_) rfl (by kernel_rfl) (by kernel_rfl) (by kernel_rfl) (fun _ _ _ h => h) (Or.inl ⟨by rfl, ?_⟩) (by assumption) ?_
  rotate_left
  focus (intro w hSw; (try dsimp only at hSw); go_simp; first | done | with_reducible rfl)
  try simp only [Act.put, List.setIfInBounds_toArray, List.set_cons_zero, List.set_cons_succ]
  refine wpAnyH_take (i := 15) (oi := ⟨some 25, _, _, _, _, _⟩) (v := ?_) rfl (by kernel_rfl) (by kernel_rfl) (by kernel_rfl) (fun _ _ _ h => h) (Or.inl ⟨by rfl, ?_⟩) (by assumption) ?_
  rotate_left
  focus (intro w hSw; obtain ⟨q0, q1⟩ := hSw.out; have e0 := hb_at q0 0 rfl; have e1 := hb_at q0 1 rfl; have x0 := hb_at q1 0 rfl; have x1 := hb_at q1 1 rfl; have x2 := hb_at q1 2 rfl; have x3 := hb_at q1 3 rfl; have x4 := hb_at q1 4 rfl; have x5 := hb_at q1 5 rfl; have x6 := hb_at q1 6 rfl; have x7 := hb_at q1 7 rfl; clear q0 q1; go_simp; first | done | with_reducible rfl)
  try simp only [Act.put, List.setIfInBounds_toArray, List.set_cons_zero, List.set_cons_succ]
  refine wpAnyH_take (i := 16) (oi := ⟨some 26, _, _, _, _, _⟩) (v := ?_) rfl (by kernel_rfl) (by kernel_rfl) (by kernel_rfl) (fun _ _ _ h => h) (Or.inl ⟨by rfl, ?_⟩) (by assumption) ?_
  rotate_left
  focus (intro w hSw; (try dsimp only at hSw); go_simp; first | done | with_reducible rfl)
  try simp only [Act.put, List.setIfInBounds_toArray, List.set_cons_zero, List.set_cons_succ]
  refine wpAnyH_take (i := 17) (oi := ⟨some 27, _, _, _, _, _⟩) (v := ?_) rfl (by kernel_rfl) (by kernel_rfl) (by kernel_rfl) (fun _ _ _ h => h) (Or.inl ⟨by rfl, ?_⟩) (by assumption) ?_
  rotate_left
  focus (intro w hSw; obtain ⟨q0, q1⟩ := hSw.out; have e0 := hb_at q0 0 rfl; have e1 := hb_at q0 1 rfl; have x0 := hb_at q1 0 rfl; have x1 := hb_at q1 1 rfl; have x2 := hb_at q1 2 rfl; have x3 := hb_at q1 3 rfl; have x4 := hb_at q1 4 rfl; have x5 := hb_at q1 5 rfl; have x6 := hb_at q1 6 rfl; have x7 := hb_at q1 7 rfl; clear q0 q1; go_simp; first | done | with_reducible rfl)
  try simp only [Act.put, List.setIfInBounds_toArray, List.set_cons_zero, List.set_cons_succ]
  refine wpAnyH_take (i := 18) (oi := ⟨some 28, _, _, _, _, _⟩) (v := ?_) rfl (by kernel_rfl) (by kernel_rfl) (by kernel_rfl) (fun _ _ _ h => h) (Or.inl ⟨by rfl, ?_⟩) (by assumption) ?_
  rotate_left
  focus (intro w hSw; (try dsimp only at hSw); go_simp; first | done | with_reducible rfl)
  try simp only [Act.put, List.setIfInBounds_toArray, List.set_cons_zero, List.set_cons_succ]
  refine wpAnyH_take (i := 19) (oi := ⟨some 29, _, _, _, _, _⟩) (v := ?_) rfl (by kernel_rfl) (by kernel_rfl) (by kernel_rfl) (fun _ _ _ h => h) (Or.inl ⟨by rfl, ?_⟩) (by assumption) ?_
  rotate_left
  focus (intro w hSw; obtain ⟨q0, q1⟩ := hSw.out; have e0 := hb_at q0 0 rfl; have e1 := hb_at q0 1 rfl; have x0 := hb_at q1 0 rfl; have x1 := hb_at q1 1 rfl; have x2 := hb_at q1 2 rfl; have x3 := hb_at q1 3 rfl; have x4 := hb_at q1 4 rfl; have x5 := hb_at q1 5 rfl; have x6 := hb_at q1 6 rfl; have x7 := hb_at q1 7 rfl; clear q0 q1; go_simp; first | done | with_reducible rfl)
  try simp only [Act.put, List.setIfInBounds_toArray, List.set_cons_zero, List.set_cons_succ]
  refine wpAnyH_take (i := 20) (oi := ⟨some 30, _, _, _, _, _⟩) (v := ?_) rfl (by kernel_rfl) (by kernel_rfl) (by kernel_rfl) (fun _ _ _ h => h) (Or.inl ⟨by rfl, ?_⟩) (by assumption) ?_
  rotate_left
  focus (intro w hSw; obtain ⟨q0, q1⟩ := hSw.out; have e0 := hb_at q0 0 rfl; have e1 := hb_at q0 1 rfl; have x0 := hb_at q1 0 rfl; have x1 := hb_at q1 1 rfl; have x2 := hb_at q1 2 rfl; have x3 := hb_at q1 3 rfl; have x4 := hb_at q1 4 rfl; have x5 := hb_at q1 5 rfl; have x6 := hb_at q1 6 rfl; have x7 := hb_at q1 7 rfl; clear q0 q1; go_simp; first | done | with_reducible rfl)
  try simp only [Act.put, List.setIfInBounds_toArray, List.set_cons_zero, List.set_cons_succ]
  refine wpAnyH_ready (rs := [9]) (by kernel_rfl) (by simp) ?_
  refine AllReadyH.cons (o := ⟨some 19, _, _, _, _, _⟩) rfl (fun K hK => ?_) AllReadyH.nil
  go_simp
  (go_at_call 26; (with_reducible refine (bytes_any _ 0 at_ n by_ name dst _ _).mono ?_); rintro e w2 ⟨g, l, rfl, hll, hlo, hg, hgc, hb2⟩; have hna := HI1.out.drew.sto.apart hg; have HI2 := Lib.hid (HI1.out.drew.on hb2); have HGC := Lib.hid hgc; have HLO := Lib.hid hlo; have HNA := Lib.hid hna; clear hb2 hgc hlo hna hg)
  go_wp2_with fail
  refine hK.out _ _ (HI2.out.s) (fun hNew => ?_)
  clear hK K
  have hHeld := hNew
  try simp only [Act.put, List.setIfInBounds_toArray, List.set_cons_zero, List.set_cons_succ]
  refine wpAnyH_ready (rs := [10]) (by kernel_rfl) (by simp) ?_
  refine AllReadyH.cons (o := ⟨some 20, _, _, _, _, _⟩) rfl (fun K hK => ?_) AllReadyH.nil
  go_simp
  (go_at_call 25; (with_reducible refine (HI2.out.sto.write (by omega) name HS.out at_ HGC.out hll HLO.out HNA.out).mono ?_); rintro e w3 hop; obtain ⟨c, A', rfl, hS, hdd, hfr⟩ := hop.did; have HI3 := Lib.hid (HI2.out.fsteps hS hfr); have HDD := Lib.hid hdd; clear hS hdd hfr)
  go_wp2_with fail
  refine hK.out _ _ (HI3.out.s) (fun hNew => ?_)
  clear hK K
  have hHeld := hNew
  try simp only [Act.put, List.setIfInBounds_toArray, List.set_cons_zero, List.set_cons_succ]
  refine wpAnyH_ready (rs := [11]) (by kernel_rfl) (by simp) ?_
  refine AllReadyH.cons (o := ⟨some 21, _, _, _, _, _⟩) rfl (fun K hK => ?_) AllReadyH.nil
  go_simp
  (go_at_call 11; (with_reducible refine (no_any _ _).mono ?_); rintro e w9 ⟨rfl, rfl⟩)
  go_wp2_with fail
  refine hK.out _ _ (HI3.out.s) (fun hNew => ?_)
  clear hK K
  have hHeld := hNew
  try simp only [Act.put, List.setIfInBounds_toArray, List.set_cons_zero, List.set_cons_succ]
  refine wpAnyH_ready (rs := [21]) (by kernel_rfl) (by simp) ?_
  refine AllReadyH.cons (o := ⟨some 31, _, _, _, _, _⟩) rfl (fun K hK => ?_) AllReadyH.nil
  go_simp
  (go_at_call 26; (with_reducible refine (bytes_any _ 0 at_ n by_ name dst _ _).mono ?_); rintro e w4 ⟨g2, l2, rfl, hll2, hlo2, hg2, hgc2, hb4⟩; have HI4 := Lib.hid (HI3.out.on hb4); obtain ⟨z, hzs, hzr⟩ := text_bytes w4 g2 l2.length l2 hlo2 hgc2; have hz2 : z.size ≤ maxLen := (by unfold maxLen; omega); have HZR := Lib.hid hzr; have HZ2 := Lib.hid hz2; clear hb4 hgc2 hlo2 hg2 hzr hzs hz2)
  go_wp2_with fail
  refine hK.out _ _ (HI4.out.s) (fun hNew => ?_)
  clear hK K
  have hHeld := hNew
  try simp only [Act.put, List.setIfInBounds_toArray, List.set_cons_zero, List.set_cons_succ]
  refine wpAnyH_ready (rs := [22]) (by kernel_rfl) (by simp) ?_
  refine AllReadyH.cons (o := ⟨some 32, _, _, _, _, _⟩) rfl (fun K hK => ?_) AllReadyH.nil
  go_simp
  simp only [HZR.out, Result.andThen]
  go_wp2_with fail
  refine hK.out _ _ (HI4.out.s) (fun hNew => ?_)
  clear hK K
  have hHeld := hNew
  try simp only [Act.put, List.setIfInBounds_toArray, List.set_cons_zero, List.set_cons_succ]
  refine wpAnyH_ready (rs := [23]) (by kernel_rfl) (by simp) ?_
  refine AllReadyH.cons (o := ⟨some 33, _, _, _, _, _⟩) rfl (fun K hK => ?_) AllReadyH.nil
  go_simp
  (go_at_call 33; (with_reducible refine (HI4.out.ref.write (by omega) HI4.out.size name at_ z HS.out HP.out HZ2.out).mono ?_); rintro e w5 ⟨⟨c2, rfl⟩, hR, hfr⟩; have HI9 := Lib.hid (HI4.out.rsteps hR hfr); clear hR hfr)
  go_wp2_with fail
  refine hK.out _ _ (HI9.out.s) (fun hNew => ?_)
  clear hK K
  have hHeld := hNew
  try simp only [Act.put, List.setIfInBounds_toArray, List.set_cons_zero, List.set_cons_succ]
  refine wpAnyH_take (i := 24) (oi := ⟨some 34, _, _, _, _, _⟩) (v := ?_) rfl (by kernel_rfl) (by kernel_rfl) (by kernel_rfl) (fun _ _ _ h => h) (Or.inl ⟨by rfl, ?_⟩) (by assumption) ?_
  rotate_left
  focus (intro w hSw; (try dsimp only at hSw); go_simp; first | done | with_reducible rfl)
  try simp only [Act.put, List.setIfInBounds_toArray, List.set_cons_zero, List.set_cons_succ]
  refine wpAnyH_take (i := 25) (oi := ⟨some 4, _, _, _, _, _⟩) (v := ?_) rfl (by kernel_rfl) (by kernel_rfl) (by kernel_rfl) (fun _ _ _ h => h) (Or.inl ⟨by rfl, ?_⟩) (by assumption) ?_
  rotate_left
  focus (intro w hSw; (try dsimp only at hSw); go_simp; first | done | with_reducible rfl)
  try simp only [Act.put, List.setIfInBounds_toArray, List.set_cons_zero, List.set_cons_succ]
  refine wpAnyH_done (by kernel_rfl) ?_ _
  clear hHeld
  go_wp2
  go_ret
  obtain ⟨hps, hbl⟩ := HI9.out.fin (k := k + 2) (by omega) (by omega)
  exact ⟨⟨_, rfl⟩, ⟨F, r, A', hps, (did_of HAE.out HDD.out fun h => .inl ⟨.inl rfl, l, HLO.out, hll, h⟩), fun _ => rfl⟩, hbl⟩
set_option maxRecDepth 100000 in
set_option maxHeartbeats 4000000 in
theorem do_write1 {w : World} {B P F r k : Nat} {A : Fs} {a a0 : Ac} (hae : a0 = a) (h : PairS w B P F r A k) (hk : k ≤ 900) (ha : AcOk w a) (h0 : a.kind = 1) :
    Calls Try.prog 14 #[.pointer (some ⟨P, 0, none⟩), .agg #[.int .i64 a.kind, .string a.name, .string a.dst, .int .i64 a.at_, .int .i64 a.n, .int .u8 a.by_, .slice a.tao a.zs.length a.tc, .slice a.fo a.fl.length a.fc]] w (BothP a0 B P F A k w) := by
  have HAE := Lib.hid hae
  clear hae
  obtain ⟨kind, name, dst, at_, n, by_, tao, zs, tc, fo, fl, fc⟩ := a
  obtain ⟨⟨⟨hp1, hp2⟩, hn1, hn2⟩, ⟨hs, hd⟩, hz, hzl, hf, hfl⟩ := ha
  dsimp only at h0 hp1 hp2 hn1 hn2 hs hd hz hzl hf hfl ⊢
  subst h0
  have HS := Lib.hid hs
  have HD := Lib.hid hd
  have HP := Lib.hid (And.intro hp1 hp2)
  have HNN := Lib.hid (And.intro hn1 hn2)
  have HZ := Lib.hid hz
  have HF := Lib.hid hf
  have HI1 := Lib.hid (h.start #[.int .i64 1, .string name, .string dst, .int .i64 at_, .int .i64 n, .int .u8 by_, .slice tao zs.length tc, .slice fo fl.length fc])
  clear hs hd hp1 hp2 hn1 hn2 hz hf h
  obtain ⟨X, hX⟩ : ∃ X, X = w.heap.size := ⟨_, rfl⟩
  rw [← hX] at HI1
  have y0 : (w.alloc (.cells #[.int .i64 1, .string name, .string dst, .int .i64 at_, .int .i64 n, .int .u8 by_, .slice tao zs.length tc, .slice fo fl.length fc] 39)).cell? ⟨w.heap.size, 0, none⟩ = some (.int .i64 1) := by rw [← hX]; exact hb_at HI1.out.box 0 rfl
  go_enter Try.func14, Try.ntmps14
  go_upto_region 4 with fail
  rw [← hX]
  clear y0 hX
  generalize w.alloc (.cells #[.int .i64 1, .string name, .string dst, .int .i64 at_, .int .i64 n, .int .u8 by_, .slice tao zs.length tc, .slice fo fl.length fc] 39) = w1 at *
  refine wp_region_held_drew (S := fun w' => RowKit.Hid (DoS P X F r #[.int .i64 1, .string name, .string dst, .int .i64 at_, .int .i64 n, .int .u8 by_, .slice tao zs.length tc, .slice fo fl.length fc] w')) (by kernel_rfl) (by exact HI1.out.drew.s) (fun hHeld => ?_)
  refine wpAnyH_take (i := 0) (oi := ⟨some 10, _, _, _, _, _⟩) (v := ?_) rfl (by kernel_rfl) (by kernel_rfl) (by kernel_rfl) (fun _ _ _ h => h) (Or.inl ⟨by rfl, ?_⟩) (by assumption) ?_
  rotate_left
  focus (intro w hSw; (try dsimp only at hSw); go_simp; first | done | with_reducible rfl)
  try simp only [Act.put, List.setIfInBounds_toArray, List.set_cons_zero, List.set_cons_succ]
  refine wpAnyH_take (i := 1) (oi := ⟨some 11, _, _, _, _, _⟩) (v := ?_) rfl (by kernel_rfl) (by kernel_rfl) (by kernel_rfl) (fun _ _ _ h => h) (Or.inl ⟨by rfl, ?_⟩) (by assumption) ?_
  rotate_left
  focus (intro w hSw; (try dsimp only at hSw); go_simp; first | done | with_reducible rfl)
  try simp only [Act.put, List.setIfInBounds_toArray, List.set_cons_zero, List.set_cons_succ]
  refine wpAnyH_take (i := 2) (oi := ⟨some 12, _, _, _, _, _⟩) (v := ?_) rfl (by kernel_rfl) (by kernel_rfl) (by kernel_rfl) (fun _ _ _ h => h) (Or.inl ⟨by rfl, ?_⟩) (by assumption) ?_
  rotate_left
  focus (intro w hSw; (try dsimp only at hSw); go_simp; first | done | with_reducible rfl)
  try simp only [Act.put, List.setIfInBounds_toArray, List.set_cons_zero, List.set_cons_succ]
  refine wpAnyH_take (i := 3) (oi := ⟨some 13, _, _, _, _, _⟩) (v := ?_) rfl (by kernel_rfl) (by kernel_rfl) (by kernel_rfl) (fun _ _ _ h => h) (Or.inl ⟨by rfl, ?_⟩) (by assumption) ?_
  rotate_left
  focus (intro w hSw; obtain ⟨q0, q1⟩ := hSw.out; have e0 := hb_at q0 0 rfl; have e1 := hb_at q0 1 rfl; have x0 := hb_at q1 0 rfl; have x1 := hb_at q1 1 rfl; have x2 := hb_at q1 2 rfl; have x3 := hb_at q1 3 rfl; have x4 := hb_at q1 4 rfl; have x5 := hb_at q1 5 rfl; have x6 := hb_at q1 6 rfl; have x7 := hb_at q1 7 rfl; clear q0 q1; go_simp; first | done | with_reducible rfl)
  try simp only [Act.put, List.setIfInBounds_toArray, List.set_cons_zero, List.set_cons_succ]
  refine wpAnyH_take (i := 4) (oi := ⟨some 14, _, _, _, _, _⟩) (v := ?_) rfl (by kernel_rfl) (by kernel_rfl) (by kernel_rfl) (fun _ _ _ h => h) (Or.inl ⟨by rfl, ?_⟩) (by assumption) ?_
  rotate_left
  focus (intro w hSw; (try dsimp only at hSw); go_simp; first | done | with_reducible rfl)
  try simp only [Act.put, List.setIfInBounds_toArray, List.set_cons_zero, List.set_cons_succ]
  refine wpAnyH_take (i := 5) (oi := ⟨some 15, _, _, _, _, _⟩) (v := ?_) rfl (by kernel_rfl) (by kernel_rfl) (by kernel_rfl) (fun _ _ _ h => h) (Or.inl ⟨by rfl, ?_⟩) (by assumption) ?_
  rotate_left
  focus (intro w hSw; obtain ⟨q0, q1⟩ := hSw.out; have e0 := hb_at q0 0 rfl; have e1 := hb_at q0 1 rfl; have x0 := hb_at q1 0 rfl; have x1 := hb_at q1 1 rfl; have x2 := hb_at q1 2 rfl; have x3 := hb_at q1 3 rfl; have x4 := hb_at q1 4 rfl; have x5 := hb_at q1 5 rfl; have x6 := hb_at q1 6 rfl; have x7 := hb_at q1 7 rfl; clear q0 q1; go_simp; first | done | with_reducible rfl)
  try simp only [Act.put, List.setIfInBounds_toArray, List.set_cons_zero, List.set_cons_succ]
  refine wpAnyH_take (i := 6) (oi := ⟨some 16, _, _, _, _, _⟩) (v := ?_) rfl (by kernel_rfl) (by kernel_rfl) (by kernel_rfl) (fun _ _ _ h => h) (Or.inl ⟨by rfl, ?_⟩) (by assumption) ?_
  rotate_left
  focus (intro w hSw; (try dsimp only at hSw); go_simp; first | done | with_reducible rfl)
  try simp only [Act.put, List.setIfInBounds_toArray, List.set_cons_zero, List.set_cons_succ]
  refine wpAnyH_take (i := 7) (oi := ⟨some 17, _, _, _, _, _⟩) (v := ?_) rfl (by kernel_rfl) (by kernel_rfl) (by kernel_rfl) (fun _ _ _ h => h) (Or.inl ⟨by rfl, ?_⟩) (by assumption) ?_
  rotate_left
  focus (intro w hSw; obtain ⟨q0, q1⟩ := hSw.out; have e0 := hb_at q0 0 rfl; have e1 := hb_at q0 1 rfl; have x0 := hb_at q1 0 rfl; have x1 := hb_at q1 1 rfl; have x2 := hb_at q1 2 rfl; have x3 := hb_at q1 3 rfl; have x4 := hb_at q1 4 rfl; have x5 := hb_at q1 5 rfl; have x6 := hb_at q1 6 rfl; have x7 := hb_at q1 7 rfl; clear q0 q1; go_simp; first | done | with_reducible rfl)
  try simp only [Act.put, List.setIfInBounds_toArray, List.set_cons_zero, List.set_cons_succ]
  refine wpAnyH_take (i := 8) (oi := ⟨some 18, _, _, _, _, _⟩) (v := ?_) rfl (by kernel_rfl) (by kernel_rfl) (by kernel_rfl) (fun _ _ _ h => h) (Or.inl ⟨by rfl, ?_⟩) (by assumption) ?_
  rotate_left
  focus (intro w hSw; obtain ⟨q0, q1⟩ := hSw.out; have e0 := hb_at q0 0 rfl; have e1 := hb_at q0 1 rfl; have x0 := hb_at q1 0 rfl; have x1 := hb_at q1 1 rfl; have x2 := hb_at q1 2 rfl; have x3 := hb_at q1 3 rfl; have x4 := hb_at q1 4 rfl; have x5 := hb_at q1 5 rfl; have x6 := hb_at q1 6 rfl; have x7 := hb_at q1 7 rfl; clear q0 q1; go_simp; first | done | with_reducible rfl)
  try simp only [Act.put, List.setIfInBounds_toArray, List.set_cons_zero, List.set_cons_succ]
  refine wpAnyH_take (i := 12) (oi := ⟨some 22, _, _, _, _, _⟩) (v := ?_) rfl (by kernel_rfl) (by kernel_rfl) (by kernel_rfl) (fun _ _ _ h => h) (Or.inl ⟨by rfl, ?_⟩) (by assumption) ?_
  rotate_left
  focus (intro w hSw; (try dsimp only at hSw); go_simp; first | done | with_reducible rfl)
  try simp only [Act.put, List.setIfInBounds_toArray, List.set_cons_zero, List.set_cons_succ]
  refine wpAnyH_take (i := 13) (oi := ⟨some 23, _, _, _, _, _⟩) (v := ?_) rfl (by kernel_rfl) (by kernel_rfl) (by kernel_rfl) (fun _ _ _ h => h) (Or.inl ⟨by rfl, ?_⟩) (by assumption) ?_
  rotate_left
  focus (intro w hSw; (try dsimp only at hSw); go_simp; first | done | with_reducible rfl)
  try simp only [Act.put, List.setIfInBounds_toArray, List.set_cons_zero, List.set_cons_succ]
  refine wpAnyH_take (i := 14) (oi := ⟨some 24, _, _, _, _, _⟩) (v := ?_) rfl (by kernel_rfl) (by kernel_rfl) (by kernel_rfl) (fun _ _ _ h => h) (Or.inl ⟨by rfl, ?_⟩) (by assumption) ?_
  rotate_left
  focus (intro w hSw; (try dsimp only at hSw); go_simp; first | done | with_reducible rfl)
  try simp only [Act.put, List.setIfInBounds_toArray, List.set_cons_zero, List.set_cons_succ]
  refine wpAnyH_take (i := 15) (oi := ⟨some 25, _, _, _, _, _⟩) (v := ?_) rfl (by kernel_rfl) (by kernel_rfl) (by kernel_rfl) (fun _ _ _ h => h) (Or.inl ⟨by rfl, ?_⟩) (by assumption) ?_
  rotate_left
  focus (intro w hSw; obtain ⟨q0, q1⟩ := hSw.out; have e0 := hb_at q0 0 rfl; have e1 := hb_at q0 1 rfl; have x0 := hb_at q1 0 rfl; have x1 := hb_at q1 1 rfl; have x2 := hb_at q1 2 rfl; have x3 := hb_at q1 3 rfl; have x4 := hb_at q1 4 rfl; have x5 := hb_at q1 5 rfl; have x6 := hb_at q1 6 rfl; have x7 := hb_at q1 7 rfl; clear q0 q1; go_simp; first | done | with_reducible rfl)
  try simp only [Act.put, List.setIfInBounds_toArray, List.set_cons_zero, List.set_cons_succ]
  refine wpAnyH_take (i := 16) (oi := ⟨some 26, _, _, _, _, _⟩) (v := ?_) rfl (by kernel_rfl) (by kernel_rfl) (by kernel_rfl) (fun _ _ _ h => h) (Or.inl ⟨by rfl, ?_⟩) (by assumption) ?_
  rotate_left
  focus (intro w hSw; (try dsimp only at hSw); go_simp; first | done | with_reducible rfl)
  try simp only [Act.put, List.setIfInBounds_toArray, List.set_cons_zero, List.set_cons_succ]
  refine wpAnyH_take (i := 17) (oi := ⟨some 27, _, _, _, _, _⟩) (v := ?_) rfl (by kernel_rfl) (by kernel_rfl) (by kernel_rfl) (fun _ _ _ h => h) (Or.inl ⟨by rfl, ?_⟩) (by assumption) ?_
  rotate_left
  focus (intro w hSw; obtain ⟨q0, q1⟩ := hSw.out; have e0 := hb_at q0 0 rfl; have e1 := hb_at q0 1 rfl; have x0 := hb_at q1 0 rfl; have x1 := hb_at q1 1 rfl; have x2 := hb_at q1 2 rfl; have x3 := hb_at q1 3 rfl; have x4 := hb_at q1 4 rfl; have x5 := hb_at q1 5 rfl; have x6 := hb_at q1 6 rfl; have x7 := hb_at q1 7 rfl; clear q0 q1; go_simp; first | done | with_reducible rfl)
  try simp only [Act.put, List.setIfInBounds_toArray, List.set_cons_zero, List.set_cons_succ]
  refine wpAnyH_take (i := 18) (oi := ⟨some 28, _, _, _, _, _⟩) (v := ?_) rfl (by kernel_rfl) (by kernel_rfl) (by kernel_rfl) (fun _ _ _ h => h) (Or.inl ⟨by rfl, ?_⟩) (by assumption) ?_
  rotate_left
  focus (intro w hSw; (try dsimp only at hSw); go_simp; first | done | with_reducible rfl)
  try simp only [Act.put, List.setIfInBounds_toArray, List.set_cons_zero, List.set_cons_succ]
  refine wpAnyH_take (i := 19) (oi := ⟨some 29, _, _, _, _, _⟩) (v := ?_) rfl (by kernel_rfl) (by kernel_rfl) (by kernel_rfl) (fun _ _ _ h => h) (Or.inl ⟨by rfl, ?_⟩) (by assumption) ?_
  rotate_left
  focus (intro w hSw; obtain ⟨q0, q1⟩ := hSw.out; have e0 := hb_at q0 0 rfl; have e1 := hb_at q0 1 rfl; have x0 := hb_at q1 0 rfl; have x1 := hb_at q1 1 rfl; have x2 := hb_at q1 2 rfl; have x3 := hb_at q1 3 rfl; have x4 := hb_at q1 4 rfl; have x5 := hb_at q1 5 rfl; have x6 := hb_at q1 6 rfl; have x7 := hb_at q1 7 rfl; clear q0 q1; go_simp; first | done | with_reducible rfl)
  try simp only [Act.put, List.setIfInBounds_toArray, List.set_cons_zero, List.set_cons_succ]
  refine wpAnyH_take (i := 20) (oi := ⟨some 30, _, _, _, _, _⟩) (v := ?_) rfl (by kernel_rfl) (by kernel_rfl) (by kernel_rfl) (fun _ _ _ h => h) (Or.inl ⟨by rfl, ?_⟩) (by assumption) ?_
  rotate_left
  focus (intro w hSw; obtain ⟨q0, q1⟩ := hSw.out; have e0 := hb_at q0 0 rfl; have e1 := hb_at q0 1 rfl; have x0 := hb_at q1 0 rfl; have x1 := hb_at q1 1 rfl; have x2 := hb_at q1 2 rfl; have x3 := hb_at q1 3 rfl; have x4 := hb_at q1 4 rfl; have x5 := hb_at q1 5 rfl; have x6 := hb_at q1 6 rfl; have x7 := hb_at q1 7 rfl; clear q0 q1; go_simp; first | done | with_reducible rfl)
  try simp only [Act.put, List.setIfInBounds_toArray, List.set_cons_zero, List.set_cons_succ]
  refine wpAnyH_ready (rs := [9]) (by kernel_rfl) (by simp) ?_
  refine AllReadyH.cons (o := ⟨some 19, _, _, _, _, _⟩) rfl (fun K hK => ?_) AllReadyH.nil
  go_simp
  (go_at_call 26; (with_reducible refine (bytes_any _ 1 at_ n by_ name dst _ _).mono ?_); rintro e w2 ⟨g, l, rfl, hll, hlo, hg, hgc, hb2⟩; have hna := HI1.out.drew.sto.apart hg; have HI2 := Lib.hid (HI1.out.drew.on hb2); have HGC := Lib.hid hgc; have HLO := Lib.hid hlo; have HNA := Lib.hid hna; clear hb2 hgc hlo hna hg)
  go_wp2_with fail
  refine hK.out _ _ (HI2.out.s) (fun hNew => ?_)
  clear hK K
  have hHeld := hNew
  try simp only [Act.put, List.setIfInBounds_toArray, List.set_cons_zero, List.set_cons_succ]
  refine wpAnyH_ready (rs := [10]) (by kernel_rfl) (by simp) ?_
  refine AllReadyH.cons (o := ⟨some 20, _, _, _, _, _⟩) rfl (fun K hK => ?_) AllReadyH.nil
  go_simp
  (go_at_call 25; (with_reducible refine (HI2.out.sto.write (by omega) name HS.out at_ HGC.out hll HLO.out HNA.out).mono ?_); rintro e w3 hop; obtain ⟨c, A', rfl, hS, hdd, hfr⟩ := hop.did; have HI3 := Lib.hid (HI2.out.fsteps hS hfr); have HDD := Lib.hid hdd; clear hS hdd hfr)
  go_wp2_with fail
  refine hK.out _ _ (HI3.out.s) (fun hNew => ?_)
  clear hK K
  have hHeld := hNew
  try simp only [Act.put, List.setIfInBounds_toArray, List.set_cons_zero, List.set_cons_succ]
  refine wpAnyH_ready (rs := [11]) (by kernel_rfl) (by simp) ?_
  refine AllReadyH.cons (o := ⟨some 21, _, _, _, _, _⟩) rfl (fun K hK => ?_) AllReadyH.nil
  go_simp
  (go_at_call 11; (with_reducible refine (no_any _ _).mono ?_); rintro e w9 ⟨rfl, rfl⟩)
  go_wp2_with fail
  refine hK.out _ _ (HI3.out.s) (fun hNew => ?_)
  clear hK K
  have hHeld := hNew
  try simp only [Act.put, List.setIfInBounds_toArray, List.set_cons_zero, List.set_cons_succ]
  refine wpAnyH_ready (rs := [21]) (by kernel_rfl) (by simp) ?_
  refine AllReadyH.cons (o := ⟨some 31, _, _, _, _, _⟩) rfl (fun K hK => ?_) AllReadyH.nil
  go_simp
  (go_at_call 26; (with_reducible refine (bytes_any _ 1 at_ n by_ name dst _ _).mono ?_); rintro e w4 ⟨g2, l2, rfl, hll2, hlo2, hg2, hgc2, hb4⟩; have HI4 := Lib.hid (HI3.out.on hb4); obtain ⟨z, hzs, hzr⟩ := text_bytes w4 g2 l2.length l2 hlo2 hgc2; have hz2 : z.size ≤ maxLen := (by unfold maxLen; omega); have HZR := Lib.hid hzr; have HZ2 := Lib.hid hz2; clear hb4 hgc2 hlo2 hg2 hzr hzs hz2)
  go_wp2_with fail
  refine hK.out _ _ (HI4.out.s) (fun hNew => ?_)
  clear hK K
  have hHeld := hNew
  try simp only [Act.put, List.setIfInBounds_toArray, List.set_cons_zero, List.set_cons_succ]
  refine wpAnyH_ready (rs := [22]) (by kernel_rfl) (by simp) ?_
  refine AllReadyH.cons (o := ⟨some 32, _, _, _, _, _⟩) rfl (fun K hK => ?_) AllReadyH.nil
  go_simp
  simp only [HZR.out, Result.andThen]
  go_wp2_with fail
  refine hK.out _ _ (HI4.out.s) (fun hNew => ?_)
  clear hK K
  have hHeld := hNew
  try simp only [Act.put, List.setIfInBounds_toArray, List.set_cons_zero, List.set_cons_succ]
  refine wpAnyH_ready (rs := [23]) (by kernel_rfl) (by simp) ?_
  refine AllReadyH.cons (o := ⟨some 33, _, _, _, _, _⟩) rfl (fun K hK => ?_) AllReadyH.nil
  go_simp
  (go_at_call 33; (with_reducible refine (HI4.out.ref.write (by omega) HI4.out.size name at_ z HS.out HP.out HZ2.out).mono ?_); rintro e w5 ⟨⟨c2, rfl⟩, hR, hfr⟩; have HI9 := Lib.hid (HI4.out.rsteps hR hfr); clear hR hfr)
  go_wp2_with fail
  refine hK.out _ _ (HI9.out.s) (fun hNew => ?_)
  clear hK K
  have hHeld := hNew
  try simp only [Act.put, List.setIfInBounds_toArray, List.set_cons_zero, List.set_cons_succ]
  refine wpAnyH_take (i := 24) (oi := ⟨some 34, _, _, _, _, _⟩) (v := ?_) rfl (by kernel_rfl) (by kernel_rfl) (by kernel_rfl) (fun _ _ _ h => h) (Or.inl ⟨by rfl, ?_⟩) (by assumption) ?_
  rotate_left
  focus (intro w hSw; (try dsimp only at hSw); go_simp; first | done | with_reducible rfl)
  try simp only [Act.put, List.setIfInBounds_toArray, List.set_cons_zero, List.set_cons_succ]
  refine wpAnyH_take (i := 25) (oi := ⟨some 4, _, _, _, _, _⟩) (v := ?_) rfl (by kernel_rfl) (by kernel_rfl) (by kernel_rfl) (fun _ _ _ h => h) (Or.inl ⟨by rfl, ?_⟩) (by assumption) ?_
  rotate_left
  focus (intro w hSw; (try dsimp only at hSw); go_simp; first | done | with_reducible rfl)
  try simp only [Act.put, List.setIfInBounds_toArray, List.set_cons_zero, List.set_cons_succ]
  refine wpAnyH_done (by kernel_rfl) ?_ _
  clear hHeld
  go_wp2
  go_ret
  obtain ⟨hps, hbl⟩ := HI9.out.fin (k := k + 2) (by omega) (by omega)
  exact ⟨⟨_, rfl⟩, ⟨F, r, A', hps, (did_of HAE.out HDD.out fun h => .inl ⟨.inr rfl, l, HLO.out, hll, h⟩), fun _ => rfl⟩, hbl⟩
set_option maxRecDepth 100000 in
set_option maxHeartbeats 4000000 in
theorem do_fail {w : World} {B P F r k : Nat} {A : Fs} {a a0 : Ac} (hae : a0 = a) (h : PairS w B P F r A k) (hk : k ≤ 900) (ha : AcOk w a) (h0 : a.kind = 7) :
    Calls Try.prog 14 #[.pointer (some ⟨P, 0, none⟩), .agg #[.int .i64 a.kind, .string a.name, .string a.dst, .int .i64 a.at_, .int .i64 a.n, .int .u8 a.by_, .slice a.tao a.zs.length a.tc, .slice a.fo a.fl.length a.fc]] w (BothP a0 B P F A k w) := by
  have HAE := Lib.hid hae
  clear hae
  obtain ⟨kind, name, dst, at_, n, by_, tao, zs, tc, fo, fl, fc⟩ := a
  obtain ⟨⟨⟨hp1, hp2⟩, hn1, hn2⟩, ⟨hs, hd⟩, hz, hzl, hf, hfl⟩ := ha
  dsimp only at h0 hp1 hp2 hn1 hn2 hs hd hz hzl hf hfl ⊢
  subst h0
  have HS := Lib.hid hs
  have HD := Lib.hid hd
  have HP := Lib.hid (And.intro hp1 hp2)
  have HNN := Lib.hid (And.intro hn1 hn2)
  have HZ := Lib.hid hz
  have HF := Lib.hid hf
  have HI1 := Lib.hid (h.start #[.int .i64 7, .string name, .string dst, .int .i64 at_, .int .i64 n, .int .u8 by_, .slice tao zs.length tc, .slice fo fl.length fc])
  clear hs hd hp1 hp2 hn1 hn2 hz hf h
  obtain ⟨X, hX⟩ : ∃ X, X = w.heap.size := ⟨_, rfl⟩
  rw [← hX] at HI1
  have y0 : (w.alloc (.cells #[.int .i64 7, .string name, .string dst, .int .i64 at_, .int .i64 n, .int .u8 by_, .slice tao zs.length tc, .slice fo fl.length fc] 39)).cell? ⟨w.heap.size, 0, none⟩ = some (.int .i64 7) := by rw [← hX]; exact hb_at HI1.out.box 0 rfl
  go_enter Try.func14, Try.ntmps14
  go_upto_region 16 with fail
  rw [← hX]
  clear y0 hX
  generalize w.alloc (.cells #[.int .i64 7, .string name, .string dst, .int .i64 at_, .int .i64 n, .int .u8 by_, .slice tao zs.length tc, .slice fo fl.length fc] 39) = w1 at *
  refine wp_region_held_drew (S := fun w' => RowKit.Hid (DoS P X F r #[.int .i64 7, .string name, .string dst, .int .i64 at_, .int .i64 n, .int .u8 by_, .slice tao zs.length tc, .slice fo fl.length fc] w')) (by kernel_rfl) (by exact HI1.out.drew.s) (fun hHeld => ?_)
  refine wpAnyH_take (i := 0) (oi := ⟨some 131, _, _, _, _, _⟩) (v := ?_) rfl (by kernel_rfl) (by kernel_rfl) (by kernel_rfl) (fun _ _ _ h => h) (Or.inl ⟨by rfl, ?_⟩) (by assumption) ?_
  rotate_left
  focus (intro w hSw; (try dsimp only at hSw); go_simp; first | done | with_reducible rfl)
  try simp only [Act.put, List.setIfInBounds_toArray, List.set_cons_zero, List.set_cons_succ]
  refine wpAnyH_take (i := 1) (oi := ⟨some 132, _, _, _, _, _⟩) (v := ?_) rfl (by kernel_rfl) (by kernel_rfl) (by kernel_rfl) (fun _ _ _ h => h) (Or.inl ⟨by rfl, ?_⟩) (by assumption) ?_
  rotate_left
  focus (intro w hSw; (try dsimp only at hSw); go_simp; first | done | with_reducible rfl)
  try simp only [Act.put, List.setIfInBounds_toArray, List.set_cons_zero, List.set_cons_succ]
  refine wpAnyH_take (i := 2) (oi := ⟨some 133, _, _, _, _, _⟩) (v := ?_) rfl (by kernel_rfl) (by kernel_rfl) (by kernel_rfl) (fun _ _ _ h => h) (Or.inl ⟨by rfl, ?_⟩) (by assumption) ?_
  rotate_left
  focus (intro w hSw; (try dsimp only at hSw); go_simp; first | done | with_reducible rfl)
  try simp only [Act.put, List.setIfInBounds_toArray, List.set_cons_zero, List.set_cons_succ]
  refine wpAnyH_take (i := 3) (oi := ⟨some 134, _, _, _, _, _⟩) (v := ?_) rfl (by kernel_rfl) (by kernel_rfl) (by kernel_rfl) (fun _ _ _ h => h) (Or.inl ⟨by rfl, ?_⟩) (by assumption) ?_
  rotate_left
  focus (intro w hSw; obtain ⟨q0, q1⟩ := hSw.out; have e0 := hb_at q0 0 rfl; have e1 := hb_at q0 1 rfl; have x0 := hb_at q1 0 rfl; have x1 := hb_at q1 1 rfl; have x2 := hb_at q1 2 rfl; have x3 := hb_at q1 3 rfl; have x4 := hb_at q1 4 rfl; have x5 := hb_at q1 5 rfl; have x6 := hb_at q1 6 rfl; have x7 := hb_at q1 7 rfl; clear q0 q1; go_simp; first | done | with_reducible rfl)
  try simp only [Act.put, List.setIfInBounds_toArray, List.set_cons_zero, List.set_cons_succ]
  refine wpAnyH_take (i := 4) (oi := ⟨some 135, _, _, _, _, _⟩) (v := ?_) rfl (by kernel_rfl) (by kernel_rfl) (by kernel_rfl) (fun _ _ _ h => h) (Or.inl ⟨by rfl, ?_⟩) (by assumption) ?_
  rotate_left
  focus (intro w hSw; (try dsimp only at hSw); go_simp; first | done | with_reducible rfl)
  try simp only [Act.put, List.setIfInBounds_toArray, List.set_cons_zero, List.set_cons_succ]
  refine wpAnyH_take (i := 5) (oi := ⟨some 136, _, _, _, _, _⟩) (v := ?_) rfl (by kernel_rfl) (by kernel_rfl) (by kernel_rfl) (fun _ _ _ h => h) (Or.inl ⟨by rfl, ?_⟩) (by assumption) ?_
  rotate_left
  focus (intro w hSw; obtain ⟨q0, q1⟩ := hSw.out; have e0 := hb_at q0 0 rfl; have e1 := hb_at q0 1 rfl; have x0 := hb_at q1 0 rfl; have x1 := hb_at q1 1 rfl; have x2 := hb_at q1 2 rfl; have x3 := hb_at q1 3 rfl; have x4 := hb_at q1 4 rfl; have x5 := hb_at q1 5 rfl; have x6 := hb_at q1 6 rfl; have x7 := hb_at q1 7 rfl; clear q0 q1; go_simp; first | done | with_reducible rfl)
  try simp only [Act.put, List.setIfInBounds_toArray, List.set_cons_zero, List.set_cons_succ]
  refine wpAnyH_ready (rs := [6]) (by kernel_rfl) (by simp) ?_
  refine AllReadyH.cons (o := ⟨some 137, _, _, _, _, _⟩) rfl (fun K hK => ?_) AllReadyH.nil
  go_simp
  (go_at_call 30; (with_reducible refine (HI1.out.drew.sto.fail n HNN.out.2).mono ?_); rintro e w2 ⟨rfl, hS, hfr⟩; have HI2 := Lib.hid (HI1.out.drew.fsteps hS hfr); clear hS hfr)
  go_wp2_with fail
  refine hK.out _ _ (HI2.out.s) (fun hNew => ?_)
  clear hK K
  have hHeld := hNew
  try simp only [Act.put, List.setIfInBounds_toArray, List.set_cons_zero, List.set_cons_succ]
  refine wpAnyH_done (by kernel_rfl) ?_ _
  clear hHeld
  go_upto_region 17 with fail
  obtain ⟨cap, fv, dv, lv, tv, fs, ds, ls, ts, hR⟩ := HI2.out.ref
  obtain ⟨fa, pw, off, hq0⟩ := hR.store
  have z5 : w2.drew.frozen? ⟨r, 5, none⟩ = false := hb_free hq0 5
  have c5 : w2.drew.cell? ⟨r, 5, none⟩ = some (.int .i64 fa) := hb_at hq0 5 rfl
  clear hR hq0
  refine wp_region_held_drew (S := fun w' => RowKit.Hid (DoS P X F r #[.int .i64 7, .string name, .string dst, .int .i64 at_, .int .i64 n, .int .u8 by_, .slice tao zs.length tc, .slice fo fl.length fc] w')) (by kernel_rfl) (by exact HI2.out.drew.s) (fun hHeld => ?_)
  refine wpAnyH_take (i := 0) (oi := ⟨some 138, _, _, _, _, _⟩) (v := ?_) rfl (by kernel_rfl) (by kernel_rfl) (by kernel_rfl) (fun _ _ _ h => h) (Or.inl ⟨by rfl, ?_⟩) (by assumption) ?_
  rotate_left
  focus (intro w hSw; (try dsimp only at hSw); go_simp; first | done | with_reducible rfl)
  try simp only [Act.put, List.setIfInBounds_toArray, List.set_cons_zero, List.set_cons_succ]
  refine wpAnyH_take (i := 1) (oi := ⟨some 139, _, _, _, _, _⟩) (v := ?_) rfl (by kernel_rfl) (by kernel_rfl) (by kernel_rfl) (fun _ _ _ h => h) (Or.inl ⟨by rfl, ?_⟩) (by assumption) ?_
  rotate_left
  focus (intro w hSw; (try dsimp only at hSw); go_simp; first | done | with_reducible rfl)
  try simp only [Act.put, List.setIfInBounds_toArray, List.set_cons_zero, List.set_cons_succ]
  refine wpAnyH_take (i := 2) (oi := ⟨some 140, _, _, _, _, _⟩) (v := ?_) rfl (by kernel_rfl) (by kernel_rfl) (by kernel_rfl) (fun _ _ _ h => h) (Or.inl ⟨by rfl, ?_⟩) (by assumption) ?_
  rotate_left
  focus (intro w hSw; (try dsimp only at hSw); go_simp; first | done | with_reducible rfl)
  try simp only [Act.put, List.setIfInBounds_toArray, List.set_cons_zero, List.set_cons_succ]
  refine wpAnyH_take (i := 3) (oi := ⟨some 141, _, _, _, _, _⟩) (v := ?_) rfl (by kernel_rfl) (by kernel_rfl) (by kernel_rfl) (fun _ _ _ h => h) (Or.inl ⟨by rfl, ?_⟩) (by assumption) ?_
  rotate_left
  focus (intro w hSw; obtain ⟨q0, q1⟩ := hSw.out; have e0 := hb_at q0 0 rfl; have e1 := hb_at q0 1 rfl; have x0 := hb_at q1 0 rfl; have x1 := hb_at q1 1 rfl; have x2 := hb_at q1 2 rfl; have x3 := hb_at q1 3 rfl; have x4 := hb_at q1 4 rfl; have x5 := hb_at q1 5 rfl; have x6 := hb_at q1 6 rfl; have x7 := hb_at q1 7 rfl; clear q0 q1; go_simp; first | done | with_reducible rfl)
  try simp only [Act.put, List.setIfInBounds_toArray, List.set_cons_zero, List.set_cons_succ]
  refine wpAnyH_take (i := 4) (oi := ⟨some 142, _, _, _, _, _⟩) (v := ?_) rfl (by kernel_rfl) (by kernel_rfl) (by kernel_rfl) (fun _ _ _ h => h) (Or.inl ⟨by rfl, ?_⟩) (by assumption) ?_
  rotate_left
  focus (intro w hSw; (try dsimp only at hSw); go_simp; first | done | with_reducible rfl)
  try simp only [Act.put, List.setIfInBounds_toArray, List.set_cons_zero, List.set_cons_succ]
  refine wpAnyH_take (i := 5) (oi := ⟨some 143, _, _, _, _, _⟩) (v := ?_) rfl (by kernel_rfl) (by kernel_rfl) (by kernel_rfl) (fun _ _ _ h => h) (Or.inl ⟨by rfl, ?_⟩) (by assumption) ?_
  rotate_left
  focus (intro w hSw; obtain ⟨q0, q1⟩ := hSw.out; have e0 := hb_at q0 0 rfl; have e1 := hb_at q0 1 rfl; have x0 := hb_at q1 0 rfl; have x1 := hb_at q1 1 rfl; have x2 := hb_at q1 2 rfl; have x3 := hb_at q1 3 rfl; have x4 := hb_at q1 4 rfl; have x5 := hb_at q1 5 rfl; have x6 := hb_at q1 6 rfl; have x7 := hb_at q1 7 rfl; clear q0 q1; go_simp; first | done | with_reducible rfl)
  try simp only [Act.put, List.setIfInBounds_toArray, List.set_cons_zero, List.set_cons_succ]
  refine wpAnyH_take (i := 6) (oi := ⟨some 144, _, _, _, _, _⟩) (v := ?_) rfl (by kernel_rfl) (by kernel_rfl) (by kernel_rfl) (fun _ _ _ h => h) (Or.inl ⟨by rfl, ?_⟩) (by assumption) ?_
  rotate_left
  focus (intro w hSw; (try dsimp only at hSw); go_simp; first | done | with_reducible rfl)
  try simp only [Act.put, List.setIfInBounds_toArray, List.set_cons_zero, List.set_cons_succ]
  refine wpAnyH_take (i := 7) (oi := ⟨some 145, _, _, _, _, _⟩) (v := ?_) rfl (by kernel_rfl) (by kernel_rfl) (by kernel_rfl) (fun _ _ _ h => h) (Or.inl ⟨by rfl, ?_⟩) (by assumption) ?_
  rotate_left
  focus (intro w hSw; (try dsimp only at hSw); go_simp; first | done | with_reducible rfl)
  try simp only [Act.put, List.setIfInBounds_toArray, List.set_cons_zero, List.set_cons_succ]
  refine wpAnyH_take (i := 8) (oi := ⟨some 146, _, _, _, _, _⟩) (v := ?_) rfl (by kernel_rfl) (by kernel_rfl) (by kernel_rfl) (fun _ _ _ h => h) (Or.inl ⟨by rfl, ?_⟩) (by assumption) ?_
  rotate_left
  focus (intro w hSw; (try dsimp only at hSw); go_simp; first | done | with_reducible rfl)
  try simp only [Act.put, List.setIfInBounds_toArray, List.set_cons_zero, List.set_cons_succ]
  refine wpAnyH_ready (rs := [9]) (by kernel_rfl) (by simp) ?_
  refine AllReadyH.cons (o := ⟨none, _, _, _, _, _⟩) rfl (fun K hK => ?_) AllReadyH.nil
  go_simp
  refine hK.out _ _ ((HI2.out.drew.stored5 _).s) (fun hNew => ?_)
  clear hK K
  have hHeld := hNew
  try simp only [Act.put, List.setIfInBounds_toArray, List.set_cons_zero, List.set_cons_succ]
  refine wpAnyH_done (by kernel_rfl) ?_ _
  clear hHeld z5 c5
  have HI9 := Lib.hid (HI2.out.stored5 (max n (-1))).drew
  have p0 : ((w2.setCell ⟨r, 5, none⟩ (.int .i64 (max n (-1)))).drew).cell? ⟨P, 0, none⟩ = some (.pointer (some ⟨F, 0, none⟩)) := hb_at HI9.out.pair 0 rfl
  go_wp2
  go_ret
  obtain ⟨hps, hbl⟩ := HI9.out.fin (k := k + 2) (by omega) (by omega)
  exact ⟨⟨_, rfl⟩, ⟨F, r, _, hps, (by rw [HAE.out]; exact .inr (.inr (.inr (.inl ⟨rfl, rfl⟩)))), fun _ => rfl⟩, hbl⟩
set_option maxRecDepth 100000 in
set_option maxHeartbeats 4000000 in
theorem do_power {w : World} {B P F r k : Nat} {A : Fs} {a a0 : Ac} (hae : a0 = a) (h : PairS w B P F r A k) (hk : k ≤ 900) (ha : AcOk w a) (h0 : a.kind = 8) :
    Calls Try.prog 14 #[.pointer (some ⟨P, 0, none⟩), .agg #[.int .i64 a.kind, .string a.name, .string a.dst, .int .i64 a.at_, .int .i64 a.n, .int .u8 a.by_, .slice a.tao a.zs.length a.tc, .slice a.fo a.fl.length a.fc]] w (BothP a0 B P F A k w) := by
  have HAE := Lib.hid hae
  clear hae
  obtain ⟨kind, name, dst, at_, n, by_, tao, zs, tc, fo, fl, fc⟩ := a
  obtain ⟨⟨⟨hp1, hp2⟩, hn1, hn2⟩, ⟨hs, hd⟩, hz, hzl, hf, hfl⟩ := ha
  dsimp only at h0 hp1 hp2 hn1 hn2 hs hd hz hzl hf hfl ⊢
  subst h0
  have HS := Lib.hid hs
  have HD := Lib.hid hd
  have HP := Lib.hid (And.intro hp1 hp2)
  have HNN := Lib.hid (And.intro hn1 hn2)
  have HZ := Lib.hid hz
  have HF := Lib.hid hf
  have HI1 := Lib.hid (h.start #[.int .i64 8, .string name, .string dst, .int .i64 at_, .int .i64 n, .int .u8 by_, .slice tao zs.length tc, .slice fo fl.length fc])
  clear hs hd hp1 hp2 hn1 hn2 hz hf h
  obtain ⟨X, hX⟩ : ∃ X, X = w.heap.size := ⟨_, rfl⟩
  rw [← hX] at HI1
  have y0 : (w.alloc (.cells #[.int .i64 8, .string name, .string dst, .int .i64 at_, .int .i64 n, .int .u8 by_, .slice tao zs.length tc, .slice fo fl.length fc] 39)).cell? ⟨w.heap.size, 0, none⟩ = some (.int .i64 8) := by rw [← hX]; exact hb_at HI1.out.box 0 rfl
  go_enter Try.func14, Try.ntmps14
  go_upto_region 19 with fail
  rw [← hX]
  clear y0 hX
  generalize w.alloc (.cells #[.int .i64 8, .string name, .string dst, .int .i64 at_, .int .i64 n, .int .u8 by_, .slice tao zs.length tc, .slice fo fl.length fc] 39) = w1 at *
  refine wp_region_held_drew (S := fun w' => RowKit.Hid (DoS P X F r #[.int .i64 8, .string name, .string dst, .int .i64 at_, .int .i64 n, .int .u8 by_, .slice tao zs.length tc, .slice fo fl.length fc] w')) (by kernel_rfl) (by exact HI1.out.drew.s) (fun hHeld => ?_)
  refine wpAnyH_take (i := 0) (oi := ⟨some 149, _, _, _, _, _⟩) (v := ?_) rfl (by kernel_rfl) (by kernel_rfl) (by kernel_rfl) (fun _ _ _ h => h) (Or.inl ⟨by rfl, ?_⟩) (by assumption) ?_
  rotate_left
  focus (intro w hSw; (try dsimp only at hSw); go_simp; first | done | with_reducible rfl)
  try simp only [Act.put, List.setIfInBounds_toArray, List.set_cons_zero, List.set_cons_succ]
  refine wpAnyH_take (i := 1) (oi := ⟨some 150, _, _, _, _, _⟩) (v := ?_) rfl (by kernel_rfl) (by kernel_rfl) (by kernel_rfl) (fun _ _ _ h => h) (Or.inl ⟨by rfl, ?_⟩) (by assumption) ?_
  rotate_left
  focus (intro w hSw; (try dsimp only at hSw); go_simp; first | done | with_reducible rfl)
  try simp only [Act.put, List.setIfInBounds_toArray, List.set_cons_zero, List.set_cons_succ]
  refine wpAnyH_take (i := 2) (oi := ⟨some 151, _, _, _, _, _⟩) (v := ?_) rfl (by kernel_rfl) (by kernel_rfl) (by kernel_rfl) (fun _ _ _ h => h) (Or.inl ⟨by rfl, ?_⟩) (by assumption) ?_
  rotate_left
  focus (intro w hSw; (try dsimp only at hSw); go_simp; first | done | with_reducible rfl)
  try simp only [Act.put, List.setIfInBounds_toArray, List.set_cons_zero, List.set_cons_succ]
  refine wpAnyH_take (i := 3) (oi := ⟨some 152, _, _, _, _, _⟩) (v := ?_) rfl (by kernel_rfl) (by kernel_rfl) (by kernel_rfl) (fun _ _ _ h => h) (Or.inl ⟨by rfl, ?_⟩) (by assumption) ?_
  rotate_left
  focus (intro w hSw; obtain ⟨q0, q1⟩ := hSw.out; have e0 := hb_at q0 0 rfl; have e1 := hb_at q0 1 rfl; have x0 := hb_at q1 0 rfl; have x1 := hb_at q1 1 rfl; have x2 := hb_at q1 2 rfl; have x3 := hb_at q1 3 rfl; have x4 := hb_at q1 4 rfl; have x5 := hb_at q1 5 rfl; have x6 := hb_at q1 6 rfl; have x7 := hb_at q1 7 rfl; clear q0 q1; go_simp; first | done | with_reducible rfl)
  try simp only [Act.put, List.setIfInBounds_toArray, List.set_cons_zero, List.set_cons_succ]
  refine wpAnyH_take (i := 4) (oi := ⟨some 153, _, _, _, _, _⟩) (v := ?_) rfl (by kernel_rfl) (by kernel_rfl) (by kernel_rfl) (fun _ _ _ h => h) (Or.inl ⟨by rfl, ?_⟩) (by assumption) ?_
  rotate_left
  focus (intro w hSw; (try dsimp only at hSw); go_simp; first | done | with_reducible rfl)
  try simp only [Act.put, List.setIfInBounds_toArray, List.set_cons_zero, List.set_cons_succ]
  refine wpAnyH_take (i := 5) (oi := ⟨some 154, _, _, _, _, _⟩) (v := ?_) rfl (by kernel_rfl) (by kernel_rfl) (by kernel_rfl) (fun _ _ _ h => h) (Or.inl ⟨by rfl, ?_⟩) (by assumption) ?_
  rotate_left
  focus (intro w hSw; obtain ⟨q0, q1⟩ := hSw.out; have e0 := hb_at q0 0 rfl; have e1 := hb_at q0 1 rfl; have x0 := hb_at q1 0 rfl; have x1 := hb_at q1 1 rfl; have x2 := hb_at q1 2 rfl; have x3 := hb_at q1 3 rfl; have x4 := hb_at q1 4 rfl; have x5 := hb_at q1 5 rfl; have x6 := hb_at q1 6 rfl; have x7 := hb_at q1 7 rfl; clear q0 q1; go_simp; first | done | with_reducible rfl)
  try simp only [Act.put, List.setIfInBounds_toArray, List.set_cons_zero, List.set_cons_succ]
  refine wpAnyH_ready (rs := [6]) (by kernel_rfl) (by simp) ?_
  refine AllReadyH.cons (o := ⟨some 155, _, _, _, _, _⟩) rfl (fun K hK => ?_) AllReadyH.nil
  go_simp
  (go_at_call 31; (with_reducible refine (HI1.out.drew.sto.power n HNN.out.2).mono ?_); rintro e w2 ⟨rfl, hS, hfr⟩; have HI2 := Lib.hid (HI1.out.drew.fsteps hS hfr); clear hS hfr)
  go_wp2_with fail
  refine hK.out _ _ (HI2.out.s) (fun hNew => ?_)
  clear hK K
  have hHeld := hNew
  try simp only [Act.put, List.setIfInBounds_toArray, List.set_cons_zero, List.set_cons_succ]
  refine wpAnyH_done (by kernel_rfl) ?_ _
  clear hHeld
  go_upto_region 20 with fail
  obtain ⟨cap, fv, dv, lv, tv, fs, ds, ls, ts, hR⟩ := HI2.out.ref
  obtain ⟨fa, pw, off, hq0⟩ := hR.store
  have z5 : w2.drew.frozen? ⟨r, 6, none⟩ = false := hb_free hq0 6
  have c5 : w2.drew.cell? ⟨r, 6, none⟩ = some (.int .i64 pw) := hb_at hq0 6 rfl
  clear hR hq0
  refine wp_region_held_drew (S := fun w' => RowKit.Hid (DoS P X F r #[.int .i64 8, .string name, .string dst, .int .i64 at_, .int .i64 n, .int .u8 by_, .slice tao zs.length tc, .slice fo fl.length fc] w')) (by kernel_rfl) (by exact HI2.out.drew.s) (fun hHeld => ?_)
  refine wpAnyH_take (i := 0) (oi := ⟨some 156, _, _, _, _, _⟩) (v := ?_) rfl (by kernel_rfl) (by kernel_rfl) (by kernel_rfl) (fun _ _ _ h => h) (Or.inl ⟨by rfl, ?_⟩) (by assumption) ?_
  rotate_left
  focus (intro w hSw; (try dsimp only at hSw); go_simp; first | done | with_reducible rfl)
  try simp only [Act.put, List.setIfInBounds_toArray, List.set_cons_zero, List.set_cons_succ]
  refine wpAnyH_take (i := 1) (oi := ⟨some 157, _, _, _, _, _⟩) (v := ?_) rfl (by kernel_rfl) (by kernel_rfl) (by kernel_rfl) (fun _ _ _ h => h) (Or.inl ⟨by rfl, ?_⟩) (by assumption) ?_
  rotate_left
  focus (intro w hSw; (try dsimp only at hSw); go_simp; first | done | with_reducible rfl)
  try simp only [Act.put, List.setIfInBounds_toArray, List.set_cons_zero, List.set_cons_succ]
  refine wpAnyH_take (i := 2) (oi := ⟨some 158, _, _, _, _, _⟩) (v := ?_) rfl (by kernel_rfl) (by kernel_rfl) (by kernel_rfl) (fun _ _ _ h => h) (Or.inl ⟨by rfl, ?_⟩) (by assumption) ?_
  rotate_left
  focus (intro w hSw; (try dsimp only at hSw); go_simp; first | done | with_reducible rfl)
  try simp only [Act.put, List.setIfInBounds_toArray, List.set_cons_zero, List.set_cons_succ]
  refine wpAnyH_take (i := 3) (oi := ⟨some 159, _, _, _, _, _⟩) (v := ?_) rfl (by kernel_rfl) (by kernel_rfl) (by kernel_rfl) (fun _ _ _ h => h) (Or.inl ⟨by rfl, ?_⟩) (by assumption) ?_
  rotate_left
  focus (intro w hSw; obtain ⟨q0, q1⟩ := hSw.out; have e0 := hb_at q0 0 rfl; have e1 := hb_at q0 1 rfl; have x0 := hb_at q1 0 rfl; have x1 := hb_at q1 1 rfl; have x2 := hb_at q1 2 rfl; have x3 := hb_at q1 3 rfl; have x4 := hb_at q1 4 rfl; have x5 := hb_at q1 5 rfl; have x6 := hb_at q1 6 rfl; have x7 := hb_at q1 7 rfl; clear q0 q1; go_simp; first | done | with_reducible rfl)
  try simp only [Act.put, List.setIfInBounds_toArray, List.set_cons_zero, List.set_cons_succ]
  refine wpAnyH_take (i := 4) (oi := ⟨some 160, _, _, _, _, _⟩) (v := ?_) rfl (by kernel_rfl) (by kernel_rfl) (by kernel_rfl) (fun _ _ _ h => h) (Or.inl ⟨by rfl, ?_⟩) (by assumption) ?_
  rotate_left
  focus (intro w hSw; (try dsimp only at hSw); go_simp; first | done | with_reducible rfl)
  try simp only [Act.put, List.setIfInBounds_toArray, List.set_cons_zero, List.set_cons_succ]
  refine wpAnyH_take (i := 5) (oi := ⟨some 161, _, _, _, _, _⟩) (v := ?_) rfl (by kernel_rfl) (by kernel_rfl) (by kernel_rfl) (fun _ _ _ h => h) (Or.inl ⟨by rfl, ?_⟩) (by assumption) ?_
  rotate_left
  focus (intro w hSw; obtain ⟨q0, q1⟩ := hSw.out; have e0 := hb_at q0 0 rfl; have e1 := hb_at q0 1 rfl; have x0 := hb_at q1 0 rfl; have x1 := hb_at q1 1 rfl; have x2 := hb_at q1 2 rfl; have x3 := hb_at q1 3 rfl; have x4 := hb_at q1 4 rfl; have x5 := hb_at q1 5 rfl; have x6 := hb_at q1 6 rfl; have x7 := hb_at q1 7 rfl; clear q0 q1; go_simp; first | done | with_reducible rfl)
  try simp only [Act.put, List.setIfInBounds_toArray, List.set_cons_zero, List.set_cons_succ]
  refine wpAnyH_take (i := 6) (oi := ⟨some 162, _, _, _, _, _⟩) (v := ?_) rfl (by kernel_rfl) (by kernel_rfl) (by kernel_rfl) (fun _ _ _ h => h) (Or.inl ⟨by rfl, ?_⟩) (by assumption) ?_
  rotate_left
  focus (intro w hSw; (try dsimp only at hSw); go_simp; first | done | with_reducible rfl)
  try simp only [Act.put, List.setIfInBounds_toArray, List.set_cons_zero, List.set_cons_succ]
  refine wpAnyH_take (i := 7) (oi := ⟨some 163, _, _, _, _, _⟩) (v := ?_) rfl (by kernel_rfl) (by kernel_rfl) (by kernel_rfl) (fun _ _ _ h => h) (Or.inl ⟨by rfl, ?_⟩) (by assumption) ?_
  rotate_left
  focus (intro w hSw; (try dsimp only at hSw); go_simp; first | done | with_reducible rfl)
  try simp only [Act.put, List.setIfInBounds_toArray, List.set_cons_zero, List.set_cons_succ]
  refine wpAnyH_take (i := 8) (oi := ⟨some 164, _, _, _, _, _⟩) (v := ?_) rfl (by kernel_rfl) (by kernel_rfl) (by kernel_rfl) (fun _ _ _ h => h) (Or.inl ⟨by rfl, ?_⟩) (by assumption) ?_
  rotate_left
  focus (intro w hSw; (try dsimp only at hSw); go_simp; first | done | with_reducible rfl)
  try simp only [Act.put, List.setIfInBounds_toArray, List.set_cons_zero, List.set_cons_succ]
  refine wpAnyH_ready (rs := [9]) (by kernel_rfl) (by simp) ?_
  refine AllReadyH.cons (o := ⟨none, _, _, _, _, _⟩) rfl (fun K hK => ?_) AllReadyH.nil
  go_simp
  refine hK.out _ _ ((HI2.out.drew.stored6 _).s) (fun hNew => ?_)
  clear hK K
  have hHeld := hNew
  try simp only [Act.put, List.setIfInBounds_toArray, List.set_cons_zero, List.set_cons_succ]
  refine wpAnyH_done (by kernel_rfl) ?_ _
  clear hHeld z5 c5
  have HI9 := Lib.hid (HI2.out.stored6 (max n (-1))).drew
  have p0 : ((w2.setCell ⟨r, 6, none⟩ (.int .i64 (max n (-1)))).drew).cell? ⟨P, 0, none⟩ = some (.pointer (some ⟨F, 0, none⟩)) := hb_at HI9.out.pair 0 rfl
  go_wp2
  go_ret
  obtain ⟨hps, hbl⟩ := HI9.out.fin (k := k + 2) (by omega) (by omega)
  exact ⟨⟨_, rfl⟩, ⟨F, r, _, hps, (by rw [HAE.out]; exact .inr (.inr (.inr (.inr (.inl ⟨rfl, rfl⟩))))), fun _ => rfl⟩, hbl⟩
set_option maxRecDepth 100000 in
set_option maxHeartbeats 4000000 in
theorem do_none {w : World} {B P F r k : Nat} {A : Fs} {a a0 : Ac} (hae : a0 = a) (h : PairS w B P F r A k) (hk : k ≤ 900) (ha : AcOk w a) (h0 : ∀ j : Int, 0 ≤ j → j ≤ 9 → a.kind ≠ j) :
    Calls Try.prog 14 #[.pointer (some ⟨P, 0, none⟩), .agg #[.int .i64 a.kind, .string a.name, .string a.dst, .int .i64 a.at_, .int .i64 a.n, .int .u8 a.by_, .slice a.tao a.zs.length a.tc, .slice a.fo a.fl.length a.fc]] w (BothP a0 B P F A k w) := by
  have HAE := Lib.hid hae
  clear hae
  obtain ⟨kind, name, dst, at_, n, by_, tao, zs, tc, fo, fl, fc⟩ := a
  obtain ⟨⟨⟨hp1, hp2⟩, hn1, hn2⟩, ⟨hs, hd⟩, hz, hzl, hf, hfl⟩ := ha
  dsimp only at h0 hp1 hp2 hn1 hn2 hs hd hz hzl hf hfl ⊢
  have hne : ∀ j : Int, 0 ≤ j → j ≤ 9 → (kind == j) = false := fun j h1 h2 => by rw [beq_eq_false_iff_ne]; exact h0 j h1 h2
  have h90 : kind ≠ 9 := h0 9 (by omega) (by omega)
  have H90 := Lib.hid h90
  clear h0 h90
  have n0 := hne 0 (by omega) (by omega)
  have n1 := hne 1 (by omega) (by omega)
  have n2 := hne 2 (by omega) (by omega)
  have n3 := hne 3 (by omega) (by omega)
  have n4 := hne 4 (by omega) (by omega)
  have n5 := hne 5 (by omega) (by omega)
  have n6 := hne 6 (by omega) (by omega)
  have n7 := hne 7 (by omega) (by omega)
  have n8 := hne 8 (by omega) (by omega)
  have n9 := hne 9 (by omega) (by omega)
  clear hne
  have HS := Lib.hid hs
  have HD := Lib.hid hd
  have HP := Lib.hid (And.intro hp1 hp2)
  have HNN := Lib.hid (And.intro hn1 hn2)
  have HZ := Lib.hid hz
  have HF := Lib.hid hf
  have HI1 := Lib.hid (h.start #[.int .i64 kind, .string name, .string dst, .int .i64 at_, .int .i64 n, .int .u8 by_, .slice tao zs.length tc, .slice fo fl.length fc])
  clear hs hd hp1 hp2 hn1 hn2 hz hf h
  obtain ⟨X, hX⟩ : ∃ X, X = w.heap.size := ⟨_, rfl⟩
  rw [← hX] at HI1
  have y0 : (w.alloc (.cells #[.int .i64 kind, .string name, .string dst, .int .i64 at_, .int .i64 n, .int .u8 by_, .slice tao zs.length tc, .slice fo fl.length fc] 39)).cell? ⟨w.heap.size, 0, none⟩ = some (.int .i64 kind) := by rw [← hX]; exact hb_at HI1.out.box 0 rfl
  go_enter Try.func14, Try.ntmps14
  go_upto_region 23 with fail
  rw [← hX]
  clear y0 hX
  generalize w.alloc (.cells #[.int .i64 kind, .string name, .string dst, .int .i64 at_, .int .i64 n, .int .u8 by_, .slice tao zs.length tc, .slice fo fl.length fc] 39) = w1 at *
  have HI9 := HI1
  have p0 : w1.cell? ⟨P, 0, none⟩ = some (.pointer (some ⟨F, 0, none⟩)) := hb_at HI9.out.pair 0 rfl
  go_wp2
  go_ret
  obtain ⟨hps, hbl⟩ := HI9.out.fin (k := k + 2) (by omega) (by omega)
  exact ⟨⟨_, rfl⟩, ⟨F, r, A, hps, .inl rfl, fun _ => rfl⟩, hbl⟩
end Go.Proofs.Ytmfphnhdahaooaa
/- A call of both stores: a crash. -/
namespace Go.Proofs.Ytmfphnhdahaooaa
open Go.RowKit Go.Maps
set_option linter.unusedSimpArgs false
set_option linter.unusedVariables false
theorem RowS.below {w w' : World} {fo : Option Addr} {fl : List Sv} (h : RowS w fo fl) (hb : Below w.heap.size w w') : RowS w' fo fl := RowF.below (show RowF w fo fl from h) hb
theorem Raw.kept3 {w w' : World} {B F N L n m : Nat} {A : Fs} {tv : Value} (h : Raw w B F A N L n m tv) (hc : ∀ (b : Nat) (cs : Array Value) (t : TypeId) (f : Nat × Nat), t = 82 ∨ t = 85 ∨ t = 87 ∨ t = 5 → w.heap[b]? = some (.cells cs t f) → w'.heap[b]? = some (.cells cs t f)) (hm : ∀ (b : Nat) (es : Array MapEntry) (ck : Nat), w.heap[b]? = some (.map es ck) → w'.heap[b]? = some (.map es ck)) : Raw w' B F A N L n m tv := by
  obtain ⟨es, ck, hN⟩ := h.names.heap
  obtain ⟨ls, cl, hL⟩ := h.lasts.heap
  exact ⟨hc _ _ _ _ (.inl rfl) h.store, h.names.same ((hm _ _ _ hN).trans hN.symm), h.lasts.same ((hm _ _ _ hL).trans hL.symm), h.two, own_keptT h.row fun b cs f hx => hc b cs _ f (.inr (.inr (.inl rfl))) hx, h.new,
    fun X f hX => ⟨(h.files X f hX).new, hc _ _ _ _ (.inr (.inl rfl)) (h.files X f hX).block, own_keptT (h.files X f hX).now fun b cs f hx => hc b cs _ f (.inr (.inr (.inr rfl))) hx, own_keptT (h.files X f hX).lasts fun b cs f hx => hc b cs _ f (.inr (.inr (.inr rfl))) hx, (h.files X f hX).small, (h.files X f hX).bytes⟩,
    h.lone, h.dirs, h.lastd, h.turn, h.caps, h.nums⟩
theorem pair_other {w : World} {P j : Nat} {v : Value} {ps : Array Value} (hp : w.heap[P]? = some (.cells ps 35 (0, 0))) {b : Nat} {x : Obj} (hx : w.heap[b]? = some x) (h : ∀ cs f, x ≠ .cells cs 35 f) : (w.setCell ⟨P, j, none⟩ v).heap[b]? = some x :=
  hb_set_other hx _ fun e => by
    rw [e, hp] at hx
    exact h _ _ (Option.some.inj hx).symm
theorem Sto.paired {w : World} {B F k P j : Nat} {A : Fs} {v : Value} {ps : Array Value} (h : Sto w B F A k) (hp : w.heap[P]? = some (.cells ps 35 (0, 0))) : Sto (w.setCell ⟨P, j, none⟩ v) B F A k := by
  obtain ⟨N, L, n, m, tv, h1, h2⟩ := h
  exact ⟨N, L, n, m, tv, h1.kept3 (fun b cs t f ht hx => pair_other hp hx fun cs2 f2 e => by cases e; revert ht; decide) (fun b es ck hx => pair_other hp hx fun cs2 f2 e => by cases e), h2⟩
theorem ROk.paired {w : World} {B r k P j : Nat} {v : Value} {ps : Array Value} (h : ROk w B r k) (hp : w.heap[P]? = some (.cells ps 35 (0, 0))) : ROk (w.setCell ⟨P, j, none⟩ v) B r k := by
  obtain ⟨cap, fv, dv, lv, tv, fs, ds, ls, ts, h⟩ := h
  exact ⟨cap, fv, dv, lv, tv, fs, ds, ls, ts, h.kept fun b cs t f ht hx => pair_other hp hx fun cs2 f2 e => by cases e; revert ht; decide⟩
theorem DoI.swap {B P X F F2 r R2 k1 k2 k3 k4 : Nat} {cs : Array Value} {A A' : Fs} {w0 w : World} (h : DoI B P X F r cs A k1 k2 w0 w) (hS : Sto w B F2 A' k3) (hR : ROk w B R2 k4) : DoI B P X F2 R2 cs A' k3 k4 w0 ((w.setCell ⟨P, 0, none⟩ (.pointer (some ⟨F2, 0, none⟩))).setCell ⟨P, 1, none⟩ (.pointer (some ⟨R2, 0, none⟩))) := by
  have hp := h.pair
  have hp2 := hb_set_same hp 0 (.pointer (some ⟨F2, 0, none⟩))
  have hg1 := grown_at w P 0 (.pointer (some ⟨F2, 0, none⟩))
  exact ⟨hb_set_same hp2 1 _, pair_other hp2 (pair_other hp h.box (by intro cs f e; cases e)) (by intro cs f e; cases e), (hS.paired hp).paired hp2, (hR.paired hp).paired hp2, h.new,
    below_grown (below_grown h.below hg1 h.size h.new) (grown_at _ P 1 _) (Nat.le_trans h.size hg1.size) h.new⟩
def CrM (B k : Nat) (A : Fs) : Inv.MP := ⟨fun v w => ∃ F2 A' gt gd j, v = .pointer (some ⟨F2, 0, none⟩) ∧ Sto w B F2 A' k ∧ Crashed gt gd A (fun _ => false) A' j ∧ A'.last = A'.dir, fun v w w' h hb => by
  obtain ⟨F2, A', gt, gd, j, e, h1, h2, h3⟩ := h
  exact ⟨F2, A', gt, gd, j, e, h1.below hb, h2, h3⟩⟩
theorem ROk.on {w w' : World} {B r k : Nat} (h : ROk w B r k) (hb : Below w.heap.size w w') (hB : B ≤ w.heap.size) : ROk w' B r k := h.over (Frm.ofBelow hb hB)
theorem ROk.lt {w : World} {B r k : Nat} (h : ROk w B r k) : B ≤ w.heap.size := by
  obtain ⟨cap, fv, dv, lv, tv, fs, ds, ls, ts, h⟩ := h
  obtain ⟨fa, pw, off, h0⟩ := h.store
  have := hb_lt h0
  have := h.new
  omega
def RcM (B k : Nat) : Inv.MP := ⟨fun v w => ∃ R2, v = .pointer (some ⟨R2, 0, none⟩) ∧ ROk w B R2 k, fun v w w' h hb => by
  obtain ⟨R2, e, h1⟩ := h
  exact ⟨R2, e, h1.on hb h1.lt⟩⟩
theorem ROk.crash {w : World} {B r k : Nat} (h : ROk w B r k) (hk : k ≤ 1000) (hB : B ≤ w.heap.size) {ao fo : Option Addr} {zs : List Int} {fl : List Sv} (c fc : Nat) (hz : RowI w ao zs) (hzl : zs.length ≤ 10000) (hf : RowS w fo fl) (hfl : fl.length ≤ 1000) :
    Calls Try.prog 39 #[.pointer (some ⟨r, 0, none⟩), .slice ao zs.length c, .slice fo fl.length fc] w fun e w' => ∃ R2, e = .returned (.pointer (some ⟨R2, 0, none⟩)) ∧ ROk w' B R2 k ∧ Below w.heap.size w w' := by
  obtain ⟨cap, fv, dv, lv, tv, fs, ds, ls, ts, h⟩ := h
  refine (rcrash_any (tc := c) (fc := fc) h (by omega) hB hz (by unfold maxLen; omega) hf (by omega)).mono ?_
  rintro e w' ⟨R, fv2, dv2, lv2, fs2, ds2, ls2, rfl, ⟨B2, h1, h2, h3⟩, hb⟩
  exact ⟨R, rfl, ROk.up ⟨cap, fv2, dv2, lv2, _, fs2, ds2, ls2, [], h3⟩ (by omega) (Nat.le_refl _), hb⟩
set_option maxRecDepth 100000 in
set_option maxHeartbeats 4000000 in
theorem do_crash {w : World} {B P F r k : Nat} {A : Fs} {a a0 : Ac} (hae : a0 = a) (h : PairS w B P F r A k) (hk : k ≤ 900) (ha : AcOk w a) (h0 : a.kind = 9) :
    Calls Try.prog 14 #[.pointer (some ⟨P, 0, none⟩), .agg #[.int .i64 a.kind, .string a.name, .string a.dst, .int .i64 a.at_, .int .i64 a.n, .int .u8 a.by_, .slice a.tao a.zs.length a.tc, .slice a.fo a.fl.length a.fc]] w (BothP a0 B P F A k w) := by
  have HAE := Lib.hid hae
  clear hae
  obtain ⟨kind, name, dst, at_, n, by_, tao, zs, tc, fo, fl, fc⟩ := a
  obtain ⟨⟨⟨hp1, hp2⟩, hn1, hn2⟩, ⟨hs, hd⟩, hz, hzl, hf, hfl⟩ := ha
  dsimp only at h0 hp1 hp2 hn1 hn2 hs hd hz hzl hf hfl ⊢
  subst h0
  have HS := Lib.hid hs
  have HD := Lib.hid hd
  have HP := Lib.hid (And.intro hp1 hp2)
  have HNN := Lib.hid (And.intro hn1 hn2)
  have HZ := Lib.hid hz
  have HF := Lib.hid hf
  have HI1 := Lib.hid (h.start #[.int .i64 9, .string name, .string dst, .int .i64 at_, .int .i64 n, .int .u8 by_, .slice tao zs.length tc, .slice fo fl.length fc])
  have HZ1 : RowKit.Hid (RowI (w.alloc (.cells #[.int .i64 9, .string name, .string dst, .int .i64 at_, .int .i64 n, .int .u8 by_, .slice tao zs.length tc, .slice fo fl.length fc] 39)) tao zs) := Lib.hid (hz.below (below_alloc w _) (Nat.le_refl _))
  have HF1 : RowKit.Hid (RowS (w.alloc (.cells #[.int .i64 9, .string name, .string dst, .int .i64 at_, .int .i64 n, .int .u8 by_, .slice tao zs.length tc, .slice fo fl.length fc] 39)) fo fl) := Lib.hid (RowS.below hf (below_alloc w _))
  clear hs hd hp1 hp2 hn1 hn2 hz hf h
  obtain ⟨X, hX⟩ : ∃ X, X = w.heap.size := ⟨_, rfl⟩
  rw [← hX] at HI1
  have y0 : (w.alloc (.cells #[.int .i64 9, .string name, .string dst, .int .i64 at_, .int .i64 n, .int .u8 by_, .slice tao zs.length tc, .slice fo fl.length fc] 39)).cell? ⟨w.heap.size, 0, none⟩ = some (.int .i64 9) := by rw [← hX]; exact hb_at HI1.out.box 0 rfl
  go_enter Try.func14, Try.ntmps14
  go_upto_region 22 with fail
  rw [← hX]
  clear y0 hX
  generalize w.alloc (.cells #[.int .i64 9, .string name, .string dst, .int .i64 at_, .int .i64 n, .int .u8 by_, .slice tao zs.length tc, .slice fo fl.length fc] 39) = w1 at *
  refine Inv.regionP (by kernel_rfl) ?_
  refine Inv.take1 (i := 1) (oi := ⟨some 168, _, _, _, _, _⟩) (v := Value.pointer (some ⟨P, 0, none⟩)) [1] rfl (by kernel_rfl) (by kernel_rfl) (by kernel_rfl) (fun _ _ _ h => h) (Or.inl ⟨by rfl, ?_⟩) (by kernel_rfl) ?_
  · intro w'
    go_simp
  simp only [Act.put, List.setIfInBounds_toArray, List.set_cons_zero, List.set_cons_succ]
  refine Inv.regionT [0, 2, 3, 4, 5, 6, 7, 8, 9, 10, 11, 12, 13, 14, 15, 16, 17, 18, 19, 20, 21] [1] 22 [23, 24, 25] [some 167, some 168, some 169, some 170, some 171, some 172, some 173, some 174, some 175, some 176, some 177, some 178, some 179, some 180, some 181, some 182, some 183, some 184, some 185, some 186, some 187, some 188, none, some 189, some 190, none] [[], [], [2], [3], [4], [], [6], [], [8], [5, 7, 9], [], [11], [12], [13], [], [15], [], [17], [14, 16, 18, 10], [0, 0, 2, 3, 4, 5, 6, 7, 8, 9, 10, 14, 19], [20, 0, 2, 3, 4, 5, 6, 7, 8, 9, 10, 14, 19]] (by kernel_rfl) (by kernel_rfl) (by kernel_rfl) (by kernel_rfl) (by kernel_rfl) [Inv.MP.is (.pointer (some ⟨P, 0, none⟩)), Inv.MP.any, Inv.MP.is (.pointer (some ⟨P, 0, none⟩)), Inv.MP.is (.pointer (some ⟨P, 0, none⟩)), Inv.MP.is (.pointer (some ⟨P, 0, none⟩)), Inv.MP.is (.pointer (some ⟨F, 0, none⟩)), Inv.MP.is (.pointer (some ⟨X, 6, none⟩)), Inv.MP.is (.slice tao zs.length tc), Inv.MP.is (.pointer (some ⟨X, 7, none⟩)), Inv.MP.is (.slice fo fl.length fc), CrM B k A, Inv.MP.is (.pointer (some ⟨P, 0, none⟩)), Inv.MP.is (.pointer (some ⟨P, 0, none⟩)), Inv.MP.is (.pointer (some ⟨P, 1, none⟩)), Inv.MP.is (.pointer (some ⟨r, 0, none⟩)), Inv.MP.is (.pointer (some ⟨X, 6, none⟩)), Inv.MP.is (.slice tao zs.length tc), Inv.MP.is (.pointer (some ⟨X, 7, none⟩)), Inv.MP.is (.slice fo fl.length fc), RcM B k, Inv.MP.is (.pointer (some ⟨P, 0, none⟩)), Inv.MP.is (.pointer (some ⟨P, 0, none⟩))] [] (by intro x hx; cases hx) _ (by kernel_rfl) ⟨?_, ?_, ?_, ?_, ?_, ?_, ?_, ?_, ?_, ?_, ?_, ?_, ?_, ?_, ?_, ?_, ?_, ?_, ?_, ?_, ?_, trivial⟩ (fun vs wq hbq hv htie => ?_)
  · intro vs w' hb hv K hK
    clear hv
    have hK2 := hK.out
    clear hK
    simp only [Inv.putD, Inv.dst, List.foldl_cons, List.foldl_nil, List.getD_cons_zero, List.getD_cons_succ, Act.put, List.setIfInBounds_toArray, List.set_cons_zero, List.set_cons_succ, List.filterMap_cons, List.filterMap_nil, List.getElem?_toArray, List.getElem?_cons_zero, List.getElem?_cons_succ, List.getElem_toArray, List.getElem_cons_zero, List.getElem_cons_succ] at hK2 ⊢
    have hK := Lib.hid hK2
    clear hK2
    simp only [Region.wanted, Inv.yieldedD, Inv.dst, List.getD_cons_zero, List.getD_cons_succ]
    go_simp
    refine hK.out _ _ (Eq.refl _) (Below.refl _ _) (Inv.noTies _ _ _ _ _)
  · intro vs w' hb hv K hK
    clear hv
    have hK2 := hK.out
    clear hK
    simp only [Inv.putD, Inv.dst, List.foldl_cons, List.foldl_nil, List.getD_cons_zero, List.getD_cons_succ, Act.put, List.setIfInBounds_toArray, List.set_cons_zero, List.set_cons_succ, List.filterMap_cons, List.filterMap_nil, List.getElem?_toArray, List.getElem?_cons_zero, List.getElem?_cons_succ, List.getElem_toArray, List.getElem_cons_zero, List.getElem_cons_succ] at hK2 ⊢
    have hK := Lib.hid hK2
    clear hK2
    simp only [Region.wanted, Inv.yieldedD, Inv.dst, List.getD_cons_zero, List.getD_cons_succ]
    go_simp
    refine hK.out _ _ (Eq.refl _) (Below.refl _ _) (Inv.noTies _ _ _ _ _)
  · intro vs w' hb hv K hK
    have h2 : (Inv.MP.is (.pointer (some ⟨P, 0, none⟩))).p (vs 2) w' := hv 2 (by simp)
    clear hv
    have hK2 := hK.out
    clear hK
    simp only [Inv.putD, Inv.dst, List.foldl_cons, List.foldl_nil, List.getD_cons_zero, List.getD_cons_succ, Act.put, List.setIfInBounds_toArray, List.set_cons_zero, List.set_cons_succ, List.filterMap_cons, List.filterMap_nil, List.getElem?_toArray, List.getElem?_cons_zero, List.getElem?_cons_succ, List.getElem_toArray, List.getElem_cons_zero, List.getElem_cons_succ] at hK2 ⊢
    have hK := Lib.hid hK2
    clear hK2
    generalize vs 2 = y2 at *
    have h2 : y2 = _ := h2
    subst h2
    simp only [Region.wanted, Inv.yieldedD, Inv.dst, List.getD_cons_zero, List.getD_cons_succ]
    go_simp
    refine hK.out _ _ (Eq.refl _) (Below.refl _ _) (Inv.noTies _ _ _ _ _)
  · intro vs w' hb hv K hK
    have h3 : (Inv.MP.is (.pointer (some ⟨P, 0, none⟩))).p (vs 3) w' := hv 3 (by simp)
    clear hv
    have hK2 := hK.out
    clear hK
    simp only [Inv.putD, Inv.dst, List.foldl_cons, List.foldl_nil, List.getD_cons_zero, List.getD_cons_succ, Act.put, List.setIfInBounds_toArray, List.set_cons_zero, List.set_cons_succ, List.filterMap_cons, List.filterMap_nil, List.getElem?_toArray, List.getElem?_cons_zero, List.getElem?_cons_succ, List.getElem_toArray, List.getElem_cons_zero, List.getElem_cons_succ] at hK2 ⊢
    have hK := Lib.hid hK2
    clear hK2
    generalize vs 3 = y3 at *
    have h3 : y3 = _ := h3
    subst h3
    simp only [Region.wanted, Inv.yieldedD, Inv.dst, List.getD_cons_zero, List.getD_cons_succ]
    go_simp
    refine hK.out _ _ (Eq.refl _) (Below.refl _ _) (Inv.noTies _ _ _ _ _)
  · intro vs w' hb hv K hK
    have h4 : (Inv.MP.is (.pointer (some ⟨P, 0, none⟩))).p (vs 4) w' := hv 4 (by simp)
    clear hv
    have hK2 := hK.out
    clear hK
    simp only [Inv.putD, Inv.dst, List.foldl_cons, List.foldl_nil, List.getD_cons_zero, List.getD_cons_succ, Act.put, List.setIfInBounds_toArray, List.set_cons_zero, List.set_cons_succ, List.filterMap_cons, List.filterMap_nil, List.getElem?_toArray, List.getElem?_cons_zero, List.getElem?_cons_succ, List.getElem_toArray, List.getElem_cons_zero, List.getElem_cons_succ] at hK2 ⊢
    have hK := Lib.hid hK2
    clear hK2
    generalize vs 4 = y4 at *
    have h4 : y4 = _ := h4
    subst h4
    have q0 := hb_below HI1.out.pair hb (hb_lt HI1.out.pair)
    have e0 := hb_at q0 0 rfl
    simp only [Region.wanted, Inv.yieldedD, Inv.dst, List.getD_cons_zero, List.getD_cons_succ]
    go_simp
    refine hK.out _ _ (Eq.refl _) (Below.refl _ _) (Inv.noTies _ _ _ _ _)
  · intro vs w' hb hv K hK
    clear hv
    have hK2 := hK.out
    clear hK
    simp only [Inv.putD, Inv.dst, List.foldl_cons, List.foldl_nil, List.getD_cons_zero, List.getD_cons_succ, Act.put, List.setIfInBounds_toArray, List.set_cons_zero, List.set_cons_succ, List.filterMap_cons, List.filterMap_nil, List.getElem?_toArray, List.getElem?_cons_zero, List.getElem?_cons_succ, List.getElem_toArray, List.getElem_cons_zero, List.getElem_cons_succ] at hK2 ⊢
    have hK := Lib.hid hK2
    clear hK2
    simp only [Region.wanted, Inv.yieldedD, Inv.dst, List.getD_cons_zero, List.getD_cons_succ]
    go_simp
    refine hK.out _ _ (Eq.refl _) (Below.refl _ _) (Inv.noTies _ _ _ _ _)
  · intro vs w' hb hv K hK
    have h6 : (Inv.MP.is (.pointer (some ⟨X, 6, none⟩))).p (vs 6) w' := hv 6 (by simp)
    clear hv
    have hK2 := hK.out
    clear hK
    simp only [Inv.putD, Inv.dst, List.foldl_cons, List.foldl_nil, List.getD_cons_zero, List.getD_cons_succ, Act.put, List.setIfInBounds_toArray, List.set_cons_zero, List.set_cons_succ, List.filterMap_cons, List.filterMap_nil, List.getElem?_toArray, List.getElem?_cons_zero, List.getElem?_cons_succ, List.getElem_toArray, List.getElem_cons_zero, List.getElem_cons_succ] at hK2 ⊢
    have hK := Lib.hid hK2
    clear hK2
    generalize vs 6 = y6 at *
    have h6 : y6 = _ := h6
    subst h6
    have q0 := hb_below HI1.out.box hb (hb_lt HI1.out.box)
    have e6 := hb_at q0 6 rfl
    simp only [Region.wanted, Inv.yieldedD, Inv.dst, List.getD_cons_zero, List.getD_cons_succ]
    go_simp
    refine hK.out _ _ (Eq.refl _) (Below.refl _ _) (Inv.noTies _ _ _ _ _)
  · intro vs w' hb hv K hK
    clear hv
    have hK2 := hK.out
    clear hK
    simp only [Inv.putD, Inv.dst, List.foldl_cons, List.foldl_nil, List.getD_cons_zero, List.getD_cons_succ, Act.put, List.setIfInBounds_toArray, List.set_cons_zero, List.set_cons_succ, List.filterMap_cons, List.filterMap_nil, List.getElem?_toArray, List.getElem?_cons_zero, List.getElem?_cons_succ, List.getElem_toArray, List.getElem_cons_zero, List.getElem_cons_succ] at hK2 ⊢
    have hK := Lib.hid hK2
    clear hK2
    simp only [Region.wanted, Inv.yieldedD, Inv.dst, List.getD_cons_zero, List.getD_cons_succ]
    go_simp
    refine hK.out _ _ (Eq.refl _) (Below.refl _ _) (Inv.noTies _ _ _ _ _)
  · intro vs w' hb hv K hK
    have h8 : (Inv.MP.is (.pointer (some ⟨X, 7, none⟩))).p (vs 8) w' := hv 8 (by simp)
    clear hv
    have hK2 := hK.out
    clear hK
    simp only [Inv.putD, Inv.dst, List.foldl_cons, List.foldl_nil, List.getD_cons_zero, List.getD_cons_succ, Act.put, List.setIfInBounds_toArray, List.set_cons_zero, List.set_cons_succ, List.filterMap_cons, List.filterMap_nil, List.getElem?_toArray, List.getElem?_cons_zero, List.getElem?_cons_succ, List.getElem_toArray, List.getElem_cons_zero, List.getElem_cons_succ] at hK2 ⊢
    have hK := Lib.hid hK2
    clear hK2
    generalize vs 8 = y8 at *
    have h8 : y8 = _ := h8
    subst h8
    have q0 := hb_below HI1.out.box hb (hb_lt HI1.out.box)
    have e7 := hb_at q0 7 rfl
    simp only [Region.wanted, Inv.yieldedD, Inv.dst, List.getD_cons_zero, List.getD_cons_succ]
    go_simp
    refine hK.out _ _ (Eq.refl _) (Below.refl _ _) (Inv.noTies _ _ _ _ _)
  · intro vs w' hb hv K hK
    have h5 : (Inv.MP.is (.pointer (some ⟨F, 0, none⟩))).p (vs 5) w' := hv 5 (by simp)
    have h7 : (Inv.MP.is (.slice tao zs.length tc)).p (vs 7) w' := hv 7 (by simp)
    have h9 : (Inv.MP.is (.slice fo fl.length fc)).p (vs 9) w' := hv 9 (by simp)
    clear hv
    have hK2 := hK.out
    clear hK
    simp only [Inv.putD, Inv.dst, List.foldl_cons, List.foldl_nil, List.getD_cons_zero, List.getD_cons_succ, Act.put, List.setIfInBounds_toArray, List.set_cons_zero, List.set_cons_succ, List.filterMap_cons, List.filterMap_nil, List.getElem?_toArray, List.getElem?_cons_zero, List.getElem?_cons_succ, List.getElem_toArray, List.getElem_cons_zero, List.getElem_cons_succ] at hK2 ⊢
    have hK := Lib.hid hK2
    clear hK2
    generalize vs 5 = y5 at *
    generalize vs 7 = y7 at *
    generalize vs 9 = y9 at *
    have h5 : y5 = _ := h5
    subst h5
    have h7 : y7 = _ := h7
    subst h7
    have h9 : y9 = _ := h9
    subst h9
    simp only [Region.wanted, Inv.yieldedD, Inv.dst, List.getD_cons_zero, List.getD_cons_succ]
    go_simp
    (go_at_call 20; (with_reducible refine ((HI1.out.on hb).sto.crash (by omega) tc fc (HZ1.out.below hb (Nat.le_refl _)) hzl (RowS.below HF1.out hb) hfl).mono ?_); rintro e w2 ⟨F2, A', gt, gd, j, rfl, hS, hC, hL, hb2⟩)
    go_simp
    refine hK.out _ _ (⟨F2, A', gt, gd, j, rfl, hS, hC, hL⟩) hb2 (Inv.noTies _ _ _ _ _)
  · intro vs w' hb hv K hK
    clear hv
    have hK2 := hK.out
    clear hK
    simp only [Inv.putD, Inv.dst, List.foldl_cons, List.foldl_nil, List.getD_cons_zero, List.getD_cons_succ, Act.put, List.setIfInBounds_toArray, List.set_cons_zero, List.set_cons_succ, List.filterMap_cons, List.filterMap_nil, List.getElem?_toArray, List.getElem?_cons_zero, List.getElem?_cons_succ, List.getElem_toArray, List.getElem_cons_zero, List.getElem_cons_succ] at hK2 ⊢
    have hK := Lib.hid hK2
    clear hK2
    simp only [Region.wanted, Inv.yieldedD, Inv.dst, List.getD_cons_zero, List.getD_cons_succ]
    go_simp
    refine hK.out _ _ (Eq.refl _) (Below.refl _ _) (Inv.noTies _ _ _ _ _)
  · intro vs w' hb hv K hK
    have h11 : (Inv.MP.is (.pointer (some ⟨P, 0, none⟩))).p (vs 11) w' := hv 11 (by simp)
    clear hv
    have hK2 := hK.out
    clear hK
    simp only [Inv.putD, Inv.dst, List.foldl_cons, List.foldl_nil, List.getD_cons_zero, List.getD_cons_succ, Act.put, List.setIfInBounds_toArray, List.set_cons_zero, List.set_cons_succ, List.filterMap_cons, List.filterMap_nil, List.getElem?_toArray, List.getElem?_cons_zero, List.getElem?_cons_succ, List.getElem_toArray, List.getElem_cons_zero, List.getElem_cons_succ] at hK2 ⊢
    have hK := Lib.hid hK2
    clear hK2
    generalize vs 11 = y11 at *
    have h11 : y11 = _ := h11
    subst h11
    simp only [Region.wanted, Inv.yieldedD, Inv.dst, List.getD_cons_zero, List.getD_cons_succ]
    go_simp
    refine hK.out _ _ (Eq.refl _) (Below.refl _ _) (Inv.noTies _ _ _ _ _)
  · intro vs w' hb hv K hK
    have h12 : (Inv.MP.is (.pointer (some ⟨P, 0, none⟩))).p (vs 12) w' := hv 12 (by simp)
    clear hv
    have hK2 := hK.out
    clear hK
    simp only [Inv.putD, Inv.dst, List.foldl_cons, List.foldl_nil, List.getD_cons_zero, List.getD_cons_succ, Act.put, List.setIfInBounds_toArray, List.set_cons_zero, List.set_cons_succ, List.filterMap_cons, List.filterMap_nil, List.getElem?_toArray, List.getElem?_cons_zero, List.getElem?_cons_succ, List.getElem_toArray, List.getElem_cons_zero, List.getElem_cons_succ] at hK2 ⊢
    have hK := Lib.hid hK2
    clear hK2
    generalize vs 12 = y12 at *
    have h12 : y12 = _ := h12
    subst h12
    simp only [Region.wanted, Inv.yieldedD, Inv.dst, List.getD_cons_zero, List.getD_cons_succ]
    go_simp
    refine hK.out _ _ (Eq.refl _) (Below.refl _ _) (Inv.noTies _ _ _ _ _)
  · intro vs w' hb hv K hK
    have h13 : (Inv.MP.is (.pointer (some ⟨P, 1, none⟩))).p (vs 13) w' := hv 13 (by simp)
    clear hv
    have hK2 := hK.out
    clear hK
    simp only [Inv.putD, Inv.dst, List.foldl_cons, List.foldl_nil, List.getD_cons_zero, List.getD_cons_succ, Act.put, List.setIfInBounds_toArray, List.set_cons_zero, List.set_cons_succ, List.filterMap_cons, List.filterMap_nil, List.getElem?_toArray, List.getElem?_cons_zero, List.getElem?_cons_succ, List.getElem_toArray, List.getElem_cons_zero, List.getElem_cons_succ] at hK2 ⊢
    have hK := Lib.hid hK2
    clear hK2
    generalize vs 13 = y13 at *
    have h13 : y13 = _ := h13
    subst h13
    have q0 := hb_below HI1.out.pair hb (hb_lt HI1.out.pair)
    have e1 := hb_at q0 1 rfl
    simp only [Region.wanted, Inv.yieldedD, Inv.dst, List.getD_cons_zero, List.getD_cons_succ]
    go_simp
    refine hK.out _ _ (Eq.refl _) (Below.refl _ _) (Inv.noTies _ _ _ _ _)
  · intro vs w' hb hv K hK
    clear hv
    have hK2 := hK.out
    clear hK
    simp only [Inv.putD, Inv.dst, List.foldl_cons, List.foldl_nil, List.getD_cons_zero, List.getD_cons_succ, Act.put, List.setIfInBounds_toArray, List.set_cons_zero, List.set_cons_succ, List.filterMap_cons, List.filterMap_nil, List.getElem?_toArray, List.getElem?_cons_zero, List.getElem?_cons_succ, List.getElem_toArray, List.getElem_cons_zero, List.getElem_cons_succ] at hK2 ⊢
    have hK := Lib.hid hK2
    clear hK2
    simp only [Region.wanted, Inv.yieldedD, Inv.dst, List.getD_cons_zero, List.getD_cons_succ]
    go_simp
    refine hK.out _ _ (Eq.refl _) (Below.refl _ _) (Inv.noTies _ _ _ _ _)
  · intro vs w' hb hv K hK
    have h15 : (Inv.MP.is (.pointer (some ⟨X, 6, none⟩))).p (vs 15) w' := hv 15 (by simp)
    clear hv
    have hK2 := hK.out
    clear hK
    simp only [Inv.putD, Inv.dst, List.foldl_cons, List.foldl_nil, List.getD_cons_zero, List.getD_cons_succ, Act.put, List.setIfInBounds_toArray, List.set_cons_zero, List.set_cons_succ, List.filterMap_cons, List.filterMap_nil, List.getElem?_toArray, List.getElem?_cons_zero, List.getElem?_cons_succ, List.getElem_toArray, List.getElem_cons_zero, List.getElem_cons_succ] at hK2 ⊢
    have hK := Lib.hid hK2
    clear hK2
    generalize vs 15 = y15 at *
    have h15 : y15 = _ := h15
    subst h15
    have q0 := hb_below HI1.out.box hb (hb_lt HI1.out.box)
    have e6 := hb_at q0 6 rfl
    simp only [Region.wanted, Inv.yieldedD, Inv.dst, List.getD_cons_zero, List.getD_cons_succ]
    go_simp
    refine hK.out _ _ (Eq.refl _) (Below.refl _ _) (Inv.noTies _ _ _ _ _)
  · intro vs w' hb hv K hK
    clear hv
    have hK2 := hK.out
    clear hK
    simp only [Inv.putD, Inv.dst, List.foldl_cons, List.foldl_nil, List.getD_cons_zero, List.getD_cons_succ, Act.put, List.setIfInBounds_toArray, List.set_cons_zero, List.set_cons_succ, List.filterMap_cons, List.filterMap_nil, List.getElem?_toArray, List.getElem?_cons_zero, List.getElem?_cons_succ, List.getElem_toArray, List.getElem_cons_zero, List.getElem_cons_succ] at hK2 ⊢
    have hK := Lib.hid hK2
    clear hK2
    simp only [Region.wanted, Inv.yieldedD, Inv.dst, List.getD_cons_zero, List.getD_cons_succ]
    go_simp
    refine hK.out _ _ (Eq.refl _) (Below.refl _ _) (Inv.noTies _ _ _ _ _)
  · intro vs w' hb hv K hK
    have h17 : (Inv.MP.is (.pointer (some ⟨X, 7, none⟩))).p (vs 17) w' := hv 17 (by simp)
    clear hv
    have hK2 := hK.out
    clear hK
    simp only [Inv.putD, Inv.dst, List.foldl_cons, List.foldl_nil, List.getD_cons_zero, List.getD_cons_succ, Act.put, List.setIfInBounds_toArray, List.set_cons_zero, List.set_cons_succ, List.filterMap_cons, List.filterMap_nil, List.getElem?_toArray, List.getElem?_cons_zero, List.getElem?_cons_succ, List.getElem_toArray, List.getElem_cons_zero, List.getElem_cons_succ] at hK2 ⊢
    have hK := Lib.hid hK2
    clear hK2
    generalize vs 17 = y17 at *
    have h17 : y17 = _ := h17
    subst h17
    have q0 := hb_below HI1.out.box hb (hb_lt HI1.out.box)
    have e7 := hb_at q0 7 rfl
    simp only [Region.wanted, Inv.yieldedD, Inv.dst, List.getD_cons_zero, List.getD_cons_succ]
    go_simp
    refine hK.out _ _ (Eq.refl _) (Below.refl _ _) (Inv.noTies _ _ _ _ _)
  · intro vs w' hb hv K hK
    have h14 : (Inv.MP.is (.pointer (some ⟨r, 0, none⟩))).p (vs 14) w' := hv 14 (by simp)
    have h16 : (Inv.MP.is (.slice tao zs.length tc)).p (vs 16) w' := hv 16 (by simp)
    have h18 : (Inv.MP.is (.slice fo fl.length fc)).p (vs 18) w' := hv 18 (by simp)
    clear hv
    have hK2 := hK.out
    clear hK
    simp only [Inv.putD, Inv.dst, List.foldl_cons, List.foldl_nil, List.getD_cons_zero, List.getD_cons_succ, Act.put, List.setIfInBounds_toArray, List.set_cons_zero, List.set_cons_succ, List.filterMap_cons, List.filterMap_nil, List.getElem?_toArray, List.getElem?_cons_zero, List.getElem?_cons_succ, List.getElem_toArray, List.getElem_cons_zero, List.getElem_cons_succ] at hK2 ⊢
    have hK := Lib.hid hK2
    clear hK2
    generalize vs 10 = y10 at *
    generalize vs 14 = y14 at *
    generalize vs 16 = y16 at *
    generalize vs 18 = y18 at *
    have h14 : y14 = _ := h14
    subst h14
    have h16 : y16 = _ := h16
    subst h16
    have h18 : y18 = _ := h18
    subst h18
    simp only [Region.wanted, Inv.yieldedD, Inv.dst, List.getD_cons_zero, List.getD_cons_succ]
    go_simp
    (go_at_call 39; (with_reducible refine ((HI1.out.on hb).ref.crash (by omega) (HI1.out.on hb).size tc fc (HZ1.out.below hb (Nat.le_refl _)) hzl (RowS.below HF1.out hb) hfl).mono ?_); rintro e w2 ⟨R2, rfl, hR, hb2⟩)
    go_simp
    refine hK.out _ _ (⟨R2, rfl, hR⟩) hb2 (Inv.noTies _ _ _ _ _)
  · intro vs w' hb hv K hK
    have h0 : (Inv.MP.is (.pointer (some ⟨P, 0, none⟩))).p (vs 0) w' := hv 0 (by simp)
    clear hv
    have hK2 := hK.out
    clear hK
    simp only [Inv.putD, Inv.dst, List.foldl_cons, List.foldl_nil, List.getD_cons_zero, List.getD_cons_succ, Act.put, List.setIfInBounds_toArray, List.set_cons_zero, List.set_cons_succ, List.filterMap_cons, List.filterMap_nil, List.getElem?_toArray, List.getElem?_cons_zero, List.getElem?_cons_succ, List.getElem_toArray, List.getElem_cons_zero, List.getElem_cons_succ] at hK2 ⊢
    have hK := Lib.hid hK2
    clear hK2
    generalize vs 0 = y0 at *
    generalize vs 2 = y2 at *
    generalize vs 3 = y3 at *
    generalize vs 4 = y4 at *
    generalize vs 5 = y5 at *
    generalize vs 6 = y6 at *
    generalize vs 7 = y7 at *
    generalize vs 8 = y8 at *
    generalize vs 9 = y9 at *
    generalize vs 10 = y10 at *
    generalize vs 14 = y14 at *
    generalize vs 19 = y19 at *
    have h0 : y0 = _ := h0
    subst h0
    simp only [Region.wanted, Inv.yieldedD, Inv.dst, List.getD_cons_zero, List.getD_cons_succ]
    go_simp
    refine hK.out _ _ (Eq.refl _) (Below.refl _ _) (Inv.noTies _ _ _ _ _)
  · intro vs w' hb hv K hK
    have h20 : (Inv.MP.is (.pointer (some ⟨P, 0, none⟩))).p (vs 20) w' := hv 20 (by simp)
    clear hv
    have hK2 := hK.out
    clear hK
    simp only [Inv.putD, Inv.dst, List.foldl_cons, List.foldl_nil, List.getD_cons_zero, List.getD_cons_succ, Act.put, List.setIfInBounds_toArray, List.set_cons_zero, List.set_cons_succ, List.filterMap_cons, List.filterMap_nil, List.getElem?_toArray, List.getElem?_cons_zero, List.getElem?_cons_succ, List.getElem_toArray, List.getElem_cons_zero, List.getElem_cons_succ] at hK2 ⊢
    have hK := Lib.hid hK2
    clear hK2
    generalize vs 0 = y0 at *
    generalize vs 2 = y2 at *
    generalize vs 3 = y3 at *
    generalize vs 4 = y4 at *
    generalize vs 5 = y5 at *
    generalize vs 6 = y6 at *
    generalize vs 7 = y7 at *
    generalize vs 8 = y8 at *
    generalize vs 9 = y9 at *
    generalize vs 10 = y10 at *
    generalize vs 14 = y14 at *
    generalize vs 19 = y19 at *
    generalize vs 20 = y20 at *
    have h20 : y20 = _ := h20
    subst h20
    simp only [Region.wanted, Inv.yieldedD, Inv.dst, List.getD_cons_zero, List.getD_cons_succ]
    go_simp
    refine hK.out _ _ (Eq.refl _) (Below.refl _ _) (Inv.noTies _ _ _ _ _)
  · have h10 : (CrM B k A).p (vs 10) wq := hv 10 (by simp)
    have h19 : (RcM B k).p (vs 19) wq := hv 19 (by simp)
    have h21 : vs 21 = .pointer (some ⟨P, 0, none⟩) := hv 21 (by simp)
    clear hv htie
    simp only [Inv.putD, Inv.dst, List.foldl_cons, List.foldl_nil, List.getD_cons_zero, List.getD_cons_succ, Act.put, List.setIfInBounds_toArray, List.set_cons_zero, List.set_cons_succ, List.filterMap_cons, List.filterMap_nil, List.getElem?_toArray, List.getElem?_cons_zero, List.getElem?_cons_succ, List.getElem_toArray, List.getElem_cons_zero, List.getElem_cons_succ]
    generalize vs 0 = yy0 at *
    generalize vs 2 = yy2 at *
    generalize vs 3 = yy3 at *
    generalize vs 4 = yy4 at *
    generalize vs 5 = yy5 at *
    generalize vs 6 = yy6 at *
    generalize vs 7 = yy7 at *
    generalize vs 8 = yy8 at *
    generalize vs 9 = yy9 at *
    generalize vs 10 = yy10 at *
    generalize vs 11 = yy11 at *
    generalize vs 12 = yy12 at *
    generalize vs 13 = yy13 at *
    generalize vs 14 = yy14 at *
    generalize vs 15 = yy15 at *
    generalize vs 16 = yy16 at *
    generalize vs 17 = yy17 at *
    generalize vs 18 = yy18 at *
    generalize vs 19 = yy19 at *
    generalize vs 20 = yy20 at *
    generalize vs 21 = yy21 at *
    obtain ⟨F2, A', gt, gd, j, rfl, hS, hC, hL⟩ := h10
    obtain ⟨R2, rfl, hR⟩ := h19
    subst h21
    have hI := HI1.out.on hbq
    have hp := hI.pair
    have z0 : wq.frozen? ⟨P, 0, none⟩ = false := hb_free hp 0
    have s0 : wq.cell? ⟨P, 0, none⟩ = some (.pointer (some ⟨F, 0, none⟩)) := hb_at hp 0 rfl
    have hp2 := hb_set_same hp 0 (.pointer (some ⟨F2, 0, none⟩))
    have z1 : (wq.setCell ⟨P, 0, none⟩ (.pointer (some ⟨F2, 0, none⟩))).frozen? ⟨P, 1, none⟩ = false := hb_free hp2 1
    have s1 : (wq.setCell ⟨P, 0, none⟩ (.pointer (some ⟨F2, 0, none⟩))).cell? ⟨P, 1, none⟩ = some (.pointer (some ⟨r, 0, none⟩)) := hb_at hp2 1 rfl
    have HI9 := Lib.hid (hI.swap hS hR)
    have HCR : RowKit.Hid (∃ gt gd j, Crashed gt gd A (fun _ => false) A' j ∧ A'.last = A'.dir) := Lib.hid ⟨gt, gd, j, hC, hL⟩
    clear hbq hI hp hp2 hS hC hL hR
    have p0 : ((wq.setCell ⟨P, 0, none⟩ (.pointer (some ⟨F2, 0, none⟩))).setCell ⟨P, 1, none⟩ (.pointer (some ⟨R2, 0, none⟩))).cell? ⟨P, 0, none⟩ = some (.pointer (some ⟨F2, 0, none⟩)) := hb_at HI9.out.pair 0 rfl
    go_wp2
    go_ret
    obtain ⟨hps, hbl⟩ := HI9.out.fin (k := k + 2) (by omega) (by omega)
    exact ⟨⟨_, rfl⟩, ⟨F2, R2, A', hps, (by rw [HAE.out]; exact .inr (.inr (.inr (.inr (.inr ⟨rfl, HCR.out⟩))))), fun h => absurd (by rw [HAE.out]) h⟩, hbl⟩
end Go.Proofs.Ytmfphnhdahaooaa
/- What is used, behind a call. -/
namespace Go.Proofs.Ytmfphnhdahaooaa
open Go.RowKit Go.Maps
theorem DidR.sum {a : Ac} {A A' : Fs} {w : World} {B F k : Nat} (h : DidR a A A') (hS : Sto w B F A k) (hs : SumD A.used A.dir A.file) : SumD A'.used A'.dir A'.file := by
  have hdirs : ∀ t Y, A.dir t = some Y → (A.file Y).isSome = true := by
    obtain ⟨N, L, n, m, tv, h1, _⟩ := hS
    exact fun t Y ht => (h1.dirs t Y ht).2
  rcases h with rfl | rfl | ⟨_, h⟩ | ⟨_, rfl⟩ | ⟨_, rfl⟩ | ⟨_, gt, gd, j, hC, _⟩
  · exact hs
  · exact hs
  · rcases h with ⟨_, news, _, _, h⟩ | ⟨_, h⟩ | ⟨_, h⟩ | ⟨_, h⟩ | ⟨_, h⟩ | ⟨_, h⟩
    · rcases h with ⟨X, f, bv, hd, hf, hle, rfl⟩ | ⟨X, bv, _, hd, _, hf, rfl⟩
      · exact SumD.write (f' := ⟨bv, f.lv, putL f.xs a.at_.toNat news, f.ls⟩) hs hd hf (by
          show _ = A.used - (sz f.xs.length : Int) + (sz (putL f.xs a.at_.toNat news).length : Int)
          rw [putL_len hle]
          rfl)
      · exact SumD.new (f := ⟨bv, .slice none 0 0, news, []⟩) hs hd hf hdirs rfl
    · obtain ⟨X, f, bv, hd, hf, hle, rfl⟩ := h
      exact SumD.write (f' := { f with bv := bv, xs := f.xs.take a.n.toNat }) hs hd hf (by
        show A.used + ((sz a.n.toNat : Int) - (sz f.xs.length : Int)) = A.used - (sz f.xs.length : Int) + (sz (f.xs.take a.n.toNat).length : Int)
        rw [List.length_take, Nat.min_eq_left hle]
        omega)
    · obtain ⟨X, f, lv, hd, hf, rfl⟩ := h
      exact SumD.write (f' := { f with lv := lv, ls := f.xs }) hs hd hf (by
        show A.used = A.used - (sz f.xs.length : Int) + (sz f.xs.length : Int)
        omega)
    · obtain ⟨⟨X, hX⟩, hne, rfl⟩ := h
      have h1 : A.dir a.name = some X := hX
      have h2 := hs.gone a.dst (U := A.used - (sz (sizeAt A a.dst) : Int)) rfl
      have h3 : upN A.dir a.dst none a.name = some X := by unfold upN; rw [if_neg hne]; exact h1
      have h4 := h2.given h3 (t := a.dst) (by simp [upN])
      have e : upN (upN (upN A.dir a.dst none) a.name none) a.dst (some X) = appT A.dir ⟨2, a.name, a.dst, none⟩ := by
        show _ = (match A.dir a.name with | none => A.dir | some X => upN (upN A.dir a.name none) a.dst (some X))
        rw [h1]
        funext t
        by_cases e1 : t = a.dst <;> simp [upN, e1]
      rw [e] at h4
      exact h4
    · subst h
      exact hs.gone a.name rfl
    · subst h
      exact hs
  · exact hs
  · exact hs
  · exact hC.sum
/-- The directory is what lasts, with the turns made since. -/
def DirT (A : Fs) : Prop := A.dir = A.turns.foldl appT A.last
theorem dirt_snoc {A : Fs} (h : DirT A) (t : Tn) : appT A.dir t = (A.turns ++ [t]).foldl appT A.last := by
  rw [List.foldl_append, ← (show A.dir = A.turns.foldl appT A.last from h)]
  rfl
theorem DidR.dirt {a : Ac} {A A' : Fs} (h : DidR a A A') (hs : DirT A) : DirT A' := by
  rcases h with rfl | rfl | ⟨_, h⟩ | ⟨_, rfl⟩ | ⟨_, rfl⟩ | ⟨_, gt, gd, j, hC, hl⟩
  · exact hs
  · exact hs
  · rcases h with ⟨_, news, _, _, h⟩ | ⟨_, h⟩ | ⟨_, h⟩ | ⟨_, h⟩ | ⟨_, h⟩ | ⟨_, h⟩
    · rcases h with ⟨X, f, bv, hd, hf, hle, rfl⟩ | ⟨X, bv, _, hd, _, hf, rfl⟩
      · exact hs
      · exact dirt_snoc hs ⟨0, a.name, ⟨#[]⟩, some X⟩
    · obtain ⟨X, f, bv, hd, hf, hle, rfl⟩ := h
      exact hs
    · obtain ⟨X, f, lv, hd, hf, rfl⟩ := h
      exact hs
    · obtain ⟨_, _, rfl⟩ := h
      exact dirt_snoc hs ⟨2, a.name, a.dst, none⟩
    · subst h
      exact dirt_snoc hs ⟨1, a.name, ⟨#[]⟩, none⟩
    · subst h
      exact hs
  · exact hs
  · exact hs
  · show A'.dir = A'.turns.foldl appT A'.last
    rw [hC.turns, hl]
    rfl
theorem DidR.few {a : Ac} {A A' : Fs} {q : Nat} (h : DidR a A A') (hs : A.turns.length ≤ q) : A'.turns.length ≤ q + 1 := by
  have key : ∀ t, (A.turns ++ [t]).length ≤ q + 1 := fun t => by rw [List.length_append]; simp; omega
  rcases h with rfl | rfl | ⟨_, h⟩ | ⟨_, rfl⟩ | ⟨_, rfl⟩ | ⟨_, gt, gd, j, hC, hl⟩
  · omega
  · exact Nat.le_succ_of_le hs
  · rcases h with ⟨_, news, _, _, h⟩ | ⟨_, h⟩ | ⟨_, h⟩ | ⟨_, h⟩ | ⟨_, h⟩ | ⟨_, h⟩
    · rcases h with ⟨X, f, bv, hd, hf, hle, rfl⟩ | ⟨X, bv, _, hd, _, hf, rfl⟩
      · exact Nat.le_succ_of_le hs
      · exact key _
    · obtain ⟨X, f, bv, hd, hf, hle, rfl⟩ := h
      exact Nat.le_succ_of_le hs
    · obtain ⟨X, f, lv, hd, hf, rfl⟩ := h
      exact Nat.le_succ_of_le hs
    · obtain ⟨_, _, rfl⟩ := h
      exact key _
    · subst h
      exact key _
    · subst h
      exact Nat.zero_le _
  · exact Nat.le_succ_of_le hs
  · exact Nat.le_succ_of_le hs
  · rw [hC.turns]
    exact Nat.zero_le _
/-- What a store keeps to, behind q calls. -/
structure Good (A : Fs) (q : Nat) : Prop where
  sum : SumD A.used A.dir A.file
  dirt : DirT A
  few : A.turns.length ≤ q
theorem DidR.good {a : Ac} {A A' : Fs} {w : World} {B F k q : Nat} (h : DidR a A A') (hS : Sto w B F A k) (hg : Good A q) : Good A' (q + 1) := ⟨h.sum hS hg.sum, h.dirt hg.dirt, h.few hg.few⟩
end Go.Proofs.Ytmfphnhdahaooaa
/- Play: a program's store behind some calls. -/
namespace Go.Proofs.Ytmfphnhdahaooaa
open Go.RowKit Go.Maps
set_option linter.unusedSimpArgs false
set_option linter.unusedVariables false
theorem both_any {w : World} {B P F r k : Nat} {A : Fs} {a : Ac} (h : PairS w B P F r A k) (hk : k ≤ 900) (ha : AcOk w a) :
    Calls Try.prog 14 #[.pointer (some ⟨P, 0, none⟩), .agg #[.int .i64 a.kind, .string a.name, .string a.dst, .int .i64 a.at_, .int .i64 a.n, .int .u8 a.by_, .slice a.tao a.zs.length a.tc, .slice a.fo a.fl.length a.fc]] w (BothP a B P F A k w) := by
  by_cases h0 : a.kind = 0
  · exact do_write0 rfl h hk ha h0
  by_cases h1 : a.kind = 1
  · exact do_write1 rfl h hk ha h1
  by_cases h2 : a.kind = 2
  · exact do_trunc rfl h hk ha h2
  by_cases h3 : a.kind = 3
  · exact do_fsync rfl h hk ha h3
  by_cases h4 : a.kind = 4
  · exact do_rename rfl h hk ha h4
  by_cases h5 : a.kind = 5
  · exact do_remove rfl h hk ha h5
  by_cases h6 : a.kind = 6
  · exact do_sync rfl h hk ha h6
  by_cases h7 : a.kind = 7
  · exact do_fail rfl h hk ha h7
  by_cases h8 : a.kind = 8
  · exact do_power rfl h hk ha h8
  by_cases h9 : a.kind = 9
  · exact do_crash rfl h hk ha h9
  exact do_none rfl h hk ha fun j j1 j2 e => by omega
theorem AcOk.over {w w' : World} {a : Ac} (h : AcOk w a) (hb : Below w.heap.size w w') : AcOk w' a :=
  ⟨h.nums, h.name, h.turns.below hb (Nat.le_refl _), h.few, RowS.below h.files hb, h.some_⟩
theorem acOk_of {w : World} {ao : Option Addr} {l : List Ac} {a : Ac} {q : Nat} (h : RowAc w ao l) (hf : FewOk l) (ha : l[q]? = some a) : AcOk w a := by
  obtain ⟨h0, h1, h2, h3, _, h5, _⟩ := h q a ha
  obtain ⟨f1, f2, _⟩ := hf.2 a (List.mem_of_getElem? ha)
  exact ⟨h0, ⟨h1, h2⟩, h3, by omega, h5, by omega⟩
/-- What a play leaves. -/
def PlayS (B : Nat) (w : World) (F : Nat) (A : Fs) : Prop := Sto w B F A 200 ∧ Good A 60
def PlayP (w : World) (e : Ending) (w' : World) : Prop := (e = .returned (.pointer none) ∨ ∃ F A, e = .returned (.pointer (some ⟨F, 0, none⟩)) ∧ PlayS w.heap.size w' F A) ∧ Below w.heap.size w w'
theorem PairS.on {w w' : World} {B P F r k : Nat} {A : Fs} (h : PairS w B P F r A k) (hb : Below w.heap.size w w') : PairS w' B P F r A k :=
  ⟨hb_below h.pair hb (hb_lt h.pair), h.sto.below hb, h.ref.on hb h.ref.lt, h.new⟩
def PlayI (B P : Nat) (w0 : World) (q : Nat) (w : World) : Prop := (∃ F r A, PairS w B P F r A (2 * q) ∧ Good A q) ∧ Below B w0 w
theorem play_start {w0 w : World} {B F n : Nat} (h : Sto w B F (newA n) 0) (hB : B ≤ w.heap.size) (hb : Below B w0 w) : PlayI B (w.heap.size + 1) w0 0 ((w.alloc (.cells #[.int .i64 n, .slice none 0 0, .slice none 0 0, .slice none 0 0, .slice none 0 0, .int .i64 (-1), .int .i64 (-1), .bool false] 52)).alloc (.cells #[.pointer (some ⟨F, 0, none⟩), .pointer (some ⟨w.heap.size, 0, none⟩)] 35)) := by
  have hR := Ref.fresh w B (2 * 0) n hB
  have e : (w.alloc (.cells (rsC n (.slice none 0 0) (.slice none 0 0) (.slice none 0 0) (.slice none 0 0) (-1) (-1) false) 52)).heap.size = w.heap.size + 1 := by simp
  refine ⟨⟨F, w.heap.size, newA n, ⟨?_, (h.kept fun b x hx => hb_alloc hx _).kept fun b x hx => hb_alloc hx _, ⟨_, _, _, _, _, _, _, _, _, hR.kept fun b cs t f _ hx => hb_alloc hx _⟩, by omega⟩, ⟨SumD.nil _, rfl, Nat.zero_le _⟩⟩, (hb.alloc hB _).alloc (by simp; omega) _⟩
  have := hb_new (w.alloc (.cells (rsC n (.slice none 0 0) (.slice none 0 0) (.slice none 0 0) (.slice none 0 0) (-1) (-1) false) 52)) (.cells #[.pointer (some ⟨F, 0, none⟩), .pointer (some ⟨w.heap.size, 0, none⟩)] 35)
  rw [e] at this
  exact this
set_option maxRecDepth 100000 in
set_option maxHeartbeats 4000000 in
theorem play_any {w : World} {ao : Option Addr} {l : List Ac} {c : Nat} (n : Int) (h : RowAc w ao l) (hl : l.length ≤ maxLen) :
    Calls Try.prog 16 #[.int .i64 n, .slice ao l.length c] w (PlayP w) := by
  have H := Lib.hid h
  have HL := Lib.hid hl
  clear h hl
  by_cases hn : n < 1 ∨ 4096 < n
  · have HN := Lib.hid hn
    clear hn
    go_enter Try.func16, Try.ntmps16
    go_wp2_with (first
      | ((go_at_call 9; with_reducible refine (new_bad n _ HN.out).mono ?_); rintro e w' ⟨rfl, rfl⟩)
      | ((go_at_call 11; with_reducible refine (no_any _ _).mono ?_); rintro e w' ⟨rfl, rfl⟩)
      | go_in)
    go_ret
    exact ⟨.inl rfl, Below.refl _ _⟩
  obtain ⟨n, rfl⟩ : ∃ m : Nat, n = (m : Int) := ⟨n.toNat, by omega⟩
  have hn1 : 1 ≤ n := by omega
  have hn2 : n ≤ 4096 := by omega
  clear hn
  have HN := Lib.hid (And.intro hn1 hn2)
  clear hn1 hn2
  go_enter Try.func16, Try.ntmps16
  go_upto_region 2 with (first
    | ((go_at_call 9; with_reducible refine (new_ok n _ HN.out.1 HN.out.2).mono ?_); rintro e w1 ⟨rfl, hn4⟩)
    | go_in)
  have HN4 := Lib.hid hn4
  have hb1 := hn4.below
  have HB1 := Lib.hid hb1
  have H1 := Lib.hid (H.out.below hb1)
  clear hn4 hb1
  go_cut [22] (fun v wx => ∃ b : Bool, v = .bool b ∧ (b = false → FewOk l) ∧ Below w1.heap.size w1 wx)
  case first =>
    go_wp2_with (first
      | ((go_at_call 11; with_reducible refine (no_any _ _).mono ?_); rintro e w' ⟨rfl, rfl⟩)
      | ((go_at_call 13; with_reducible refine (few_any H1.out HL.out).mono ?_); rintro e w2 ⟨⟨b, rfl, hfb⟩, hb2⟩)
      | go_in)
    go_meet
    exact ⟨!b, rfl, fun h => hfb (by simpa using h), hb2⟩
  case rest =>
  obtain ⟨b, rfl, hfw, hb2⟩ := hcut
  cases b with
  | true =>
    go_wp2
    go_ret
    exact ⟨.inl rfl, HB1.out.trans (hb2.mono HB1.out.size)⟩
  | false =>
    have HFW := Lib.hid (hfw rfl)
    clear hfw
    have HBC := Lib.hid (HB1.out.trans (hb2.mono HB1.out.size))
    have hR1 := (new_raw HN4.out HN.out.1 HN.out.2).kept fun b x hx => hb_below hx hb2 (hb_lt hx)
    have HS1 : RowKit.Hid (Sto wc w.heap.size (w.heap.size + 2) (newA n) 0) := Lib.hid (sto_mk hR1 ⟨Nat.le_refl _, Nat.le_refl _, Int.le_refl _, Int.le_refl _⟩)
    clear hb2 hR1
    go_upto_region 6 with fail
    have HI : RowKit.Hid (PlayI w.heap.size (wc.heap.size + 1) w 0 ((wc.alloc (.cells #[.int .i64 n, .slice none 0 0, .slice none 0 0, .slice none 0 0, .slice none 0 0, .int .i64 (-1), .int .i64 (-1), .bool false] 52)).alloc (.cells #[.pointer (some ⟨w.heap.size + 2, 0, none⟩), .pointer (some ⟨wc.heap.size, 0, none⟩)] 35))) := Lib.hid (play_start HS1.out HBC.out.size HBC.out)
    have h60 : l.length ≤ 60 := HFW.out.1
    generalize hP0 : wc.heap.size + 1 = P at *
    clear hP0
    go_loopw [31] (fun i wr => ∃ q : Nat, q ≤ l.length ∧ i = .int .i64 q ∧ RowKit.Hid (PlayI w.heap.size P w q wr)) (fun i _ => l.length - (intOf i).toNat)
    case atStart => exact ⟨0, Nat.zero_le _, rfl, HI⟩
    case round =>
      clear HI HS1 HBC
      obtain ⟨q, hq, rfl, HI⟩ := hrel
      obtain ⟨⟨F, r, A, hps, hsd⟩, hbl⟩ := HI.out
      by_cases hlt : q < l.length
      · obtain ⟨a, ha⟩ : ∃ a, l[q]? = some a := ⟨_, List.getElem?_eq_getElem hlt⟩
        have hra := H.out.below hbl
        have hdo : ∀ o, Calls Try.prog 14 #[.pointer (some ⟨P, 0, none⟩), .agg #[.int .i64 a.kind, .string a.name, .string a.dst, .int .i64 a.at_, .int .i64 a.n, .int .u8 a.by_, .slice a.tao a.zs.length a.tc, .slice a.fo a.fl.length a.fc]] (wr.alloc o) (BothP a w.heap.size P F A (2 * q) (wr.alloc o)) := fun o =>
          both_any (hps.on (below_alloc wr o)) (by omega) ((acOk_of hra HFW.out ha).over (below_alloc wr o))
        obtain ⟨_, _, _, _, _, _, _, b, off, rfl, c0, c1, c2, c3, c4, c5, c6, c7⟩ := hra q a ha
        have HDO := Lib.hid hdo
        have HBL := Lib.hid hbl
        have HPS := Lib.hid hps
        have HSD := Lib.hid hsd
        clear hdo hra ha hbl hps hsd HI
        go_upto_region 9 with (first
          | ((go_at_call 14; with_reducible refine (HDO.out _).mono ?_); rintro e w3 ⟨⟨bb, rfl⟩, ⟨F3, r3, A3, hp3, hd3, _⟩, hb3⟩)
          | go_in)
        have p0 : w3.cell? ⟨P, 0, none⟩ = some (.pointer (some ⟨F3, 0, none⟩)) := hb_at hp3.pair 0 rfl
        have hsz := HBL.out.size
        have HN3 : RowKit.Hid (PlayI w.heap.size P w (q + 1) w3) := Lib.hid ⟨⟨F3, r3, A3, hp3, hd3.good HPS.out.sto HSD.out⟩, (HBL.out.alloc hsz _).trans hb3⟩
        clear hp3 hd3 hb3 c0 c1 c2 c3 c4 c5 c6 c7
        go_wp2
        exact ⟨⟨q + 1, by omega, by go_num, HN3⟩, by simp [intOf]; omega⟩
      · obtain rfl : q = l.length := by omega
        have p0 : wr.cell? ⟨P, 0, none⟩ = some (.pointer (some ⟨F, 0, none⟩)) := hb_at hps.pair 0 rfl
        have HE : RowKit.Hid (PlayS w.heap.size wr F A) := Lib.hid ⟨hps.sto.up (by omega), hsd.sum, hsd.dirt, Nat.le_trans hsd.few (by omega)⟩
        have HBL := Lib.hid hbl
        clear hps hsd hbl HI
        go_wp2
        go_ret
        exact ⟨.inr ⟨F, A, rfl, HE.out⟩, HBL.out⟩
end Go.Proofs.Ytmfphnhdahaooaa
/- Texts: rows of them, what is read as a text, are two rows the same? -/
namespace Go.Proofs.Ytmfphnhdahaooaa
open Go.RowKit Go.Maps Go.Sort Go.Shelf
set_option linter.unusedSimpArgs false
set_option linter.unusedVariables false
def bytV (v : Value) : UInt8 := match v with | .int _ n => UInt8.ofNat n.toNat | _ => 0
def textV (l : List Value) : ByteArray := l.foldl (fun r v => r.push (bytV v)) ByteArray.empty
theorem textV_ints (ns : List Int) : textV (ns.map (Value.int .u8)) = ns.foldl (fun r n => r.push (UInt8.ofNat n.toNat)) ByteArray.empty := by
  unfold textV
  rw [List.foldl_map]
  rfl
theorem row1_at {w : World} {B c j : Nat} {e : TypeId} {xs : List Value} {ao : Option Addr} {u : Value} (h : w.ownsRow B e 1 (.slice ao xs.length c) xs.length xs) (hx : xs[j]? = some u) : ∃ g, ao = some ⟨g, 0, none⟩ ∧ w.cell? ⟨g, j, none⟩ = some u := by
  have e1 : (xs.flatMap fun v => [v]) = xs := by simp
  obtain ⟨g, h1, _, h2⟩ := row_at (cs := fun v : Value => [v]) (k := 1) (fun _ => rfl) (by rw [e1]; exact h) hx
  exact ⟨g, h1, by have := h2 0 u rfl; simpa using this⟩
/-- Bytes, as a text. -/
theorem text_row {w : World} {B : Nat} {v : Value} {xs : List Value} (h : w.ownsRow B 5 1 v xs.length xs) (ho : OneB xs) : (convert 45 9 v).run Try.prog w = .ok (.string (textV xs)) w := by
  obtain ⟨ao, c, rfl, hc⟩ := own_sl h
  rw [run_convert_bytes_string _ 45 9 5 _ _ _ Try.underlying45 Try.underlying5 Try.underlying9]
  obtain ⟨ns, hns⟩ := ho.ints
  cases ao with
  | none =>
    have h0 : xs = [] := by
      cases hxs : xs with
      | nil => rfl
      | cons a l =>
        obtain ⟨g, e, _⟩ := row1_at (j := 0) (u := a) h (by rw [hxs]; rfl)
        cases e
    subst h0
    rfl
  | some p =>
    have hp : ∀ j u, xs[j]? = some u → w.cell? (p.add j) = some u := fun j u hu => by
      obtain ⟨g, e, hcell⟩ := row1_at h hu
      obtain rfl := Option.some.inj e
      rw [show (⟨g, 0, none⟩ : Addr).add j = ⟨g, j, none⟩ by unfold Addr.add; by_cases h0 : j = 0 <;> simp [h0]]
      exact hcell
    have hl := run_loadCells_list (P := Try.prog) (w := w) p xs hp
    rw [hns] at hl ⊢
    rw [textV_ints]
    exact run_bytesToString _ p _ c ns hl
/-- A slice of texts. -/
def TxRow (w : World) (B : Nat) (v : Value) (l : List ByteArray) : Prop := w.ownsRow B 9 1 v l.length (l.map Value.string)
theorem tx_at {w : World} {B c i : Nat} {l : List ByteArray} {s : ByteArray} {ao : Option Addr} (h : TxRow w B (.slice ao l.length c) l) (hx : l[i]? = some s) : ∃ g, ao = some ⟨g, 0, none⟩ ∧ w.cell? ⟨g, i, none⟩ = some (.string s) := by
  have e1 : l.map Value.string = l.flatMap fun s => [Value.string s] := List.map_eq_flatMap
  obtain ⟨g, h1, _, h2⟩ := row_at (cs := fun s : ByteArray => [Value.string s]) (k := 1) (fun _ => rfl) (by rw [← e1]; exact h) hx
  exact ⟨g, h1, by have := h2 0 _ rfl; simpa using this⟩
theorem TxRow.base {w : World} {B B' : Nat} {v : Value} {l : List ByteArray} (h : TxRow w B v l) (hB : B' ≤ B) : TxRow w B' v l := own_base h hB
theorem TxRow.kept {w w' : World} {B : Nat} {v : Value} {l : List ByteArray} (h : TxRow w B v l) (hc : ∀ (b : Nat) (cs : Array Value) (f : Nat × Nat), w.heap[b]? = some (.cells cs 9 f) → w'.heap[b]? = some (.cells cs 9 f)) : TxRow w' B v l := own_keptT h hc
theorem TxRow.over {w w' : World} {B B2 : Nat} {v : Value} {l : List ByteArray} (h : TxRow w B v l) (hf : Frm B2 w w') : TxRow w' B v l := h.kept fun b cs f hx => hf.other b cs _ f (by decide) (by decide) (by decide) (by decide) hx
theorem TxRow.below {w w' : World} {B : Nat} {v : Value} {l : List ByteArray} (h : TxRow w B v l) (hb : Below w.heap.size w w') : TxRow w' B v l := h.kept fun b cs f hx => hb_below hx hb (hb_lt hx)
theorem info9 : (Try.prog.info? 9).map (fun i => (i.zero, i.size, i.bytes)) = some (some (.string ⟨#[]⟩), 1, 16) := by kernel_rfl
theorem append_tx (W : World) (base : Nat) (v : Value) (l : List ByteArray) (s : ByteArray) (hown : TxRow W base v l) (g c : Nat) (hg : W.heap[g]? = some (.cells #[.string s] 9 (0, 0))) (hn : l.length ≤ 100000) (hbase : base ≤ W.heap.size) :
    ∃ v' W', (Builtin.append_ #[55, 55] 55 #[v, .slice (some ⟨g, 0, none⟩) 1 c]).run Try.prog W = .ok v' W' ∧ TxRow W' base v' (l ++ [s]) ∧ W.grownBy W' v.ownBlock := by
  obtain ⟨i0, hi, hz0, hz1, hz2⟩ := info_parts info9
  obtain ⟨v', w', h1, h2, h3, _⟩ := run_append_own_at (P := Try.prog) W base 55 55 9 i0 _ 1 16 Try.underlying55 hi hz0 hz1 hz2 rfl (by decide) v l.length (l.map Value.string) hown ⟨g, 0, none⟩ 1 c [.string s] rfl
    (fun j u hu => by
      rw [show (⟨g, 0, none⟩ : Addr).add j = ⟨g, j, none⟩ by unfold Addr.add; by_cases h0 : j = 0 <;> simp [h0]]
      match j, hu with
      | 0, hu => cases hu; exact hb_at hg 0 rfl
      | j + 1, hu => simp at hu)
    (fun u hu => by simp at hu; rw [hu]; rfl) (by unfold maxLen; omega) (by omega) hbase
  refine ⟨v', w', h1, ?_, h3⟩
  unfold TxRow
  rw [List.map_append, List.length_append]
  exact h2
/-- What a Read gives. -/
def rdL (A : Fs) (s : ByteArray) : List Value := if A.off = true then [] else match A.dir s with | none => [] | some X => match A.file X with | none => [] | some f => f.xs
structure ReadT (A : Fs) (s : ByteArray) (v : Value) (c : Int) (w w' : World) : Prop where
  row : NewRow v (rdL A s).length (rdL A s) w w'
  one : OneB (rdL A s)
  few : (rdL A s).length ≤ 1048576
  ok : A.off = false → (A.dir s).isSome = true → c = 0
theorem rdL_some {A : Fs} {s : ByteArray} {X : Nat} {f : Fil} (h0 : A.off = false) (hd : A.dir s = some X) (hf : A.file X = some f) : rdL A s = f.xs := by
  unfold rdL
  rw [h0, hd]
  simp [hf]
theorem Sto.read {w : World} {B F k : Nat} {A : Fs} (h : Sto w B F A k) (s : ByteArray) (hs : s.size ≤ maxLen) : Calls Try.prog 19 #[.pointer (some ⟨F, 0, none⟩), .string s] w fun e w' => ∃ v c, e = .returned (.tuple #[v, .int .i64 c]) ∧ ReadT A s v c w w' := by
  obtain ⟨N, L, n, m, tv, h1, h2⟩ := h
  refine (read_any h1 s hs).mono ?_
  rintro e w' (⟨c, hc, rfl, rfl, hn⟩ | ⟨v, X, f, hn, ho, hd, hf, rfl, hr⟩)
  · have key : A.off = false → A.dir s = none := fun h0 => by
      cases hd : A.dir s with
      | none => rfl
      | some X => rw [hn (h1.dirs s X hd).1 h0] at hd; cases hd
    have e0 : rdL A s = [] := by
      unfold rdL
      split
      · rfl
      · rename_i h0
        rw [key (by simpa using h0)]
    exact ⟨_, c, rfl, ⟨by rw [e0]; exact World.ownsRow_nil _ _ _ _, Below.refl _ _⟩, (by rw [e0]; exact fun u hu => (by cases hu)), (by rw [e0]; exact Nat.zero_le _), fun h0 hs => by rw [key h0] at hs; cases hs⟩
  · have e0 := rdL_some ho hd hf
    exact ⟨v, 0, rfl, by rw [e0]; exact hr, by rw [e0]; exact (h1.files X f hf).bytes.1, by rw [e0]; exact (h1.files X f hf).small.1, fun _ _ => rfl⟩
theorem NamesP.few {g : ByteArray → Option Nat} {v : Value} {bs : List (List UInt8)} {w w' w0 : World} {N n : Nat} (h : NamesP g v bs w w') (hN : NameMap w0 N n g) : bs.length ≤ n := by
  obtain ⟨D, hown, hat⟩ := hN
  have hse := str_entries hown
  have hsz := hown.size_le
  have hl : (strKeys D).length = Maps.size D := by
    obtain ⟨es, rfl⟩ := hown.isMap
    simp [strKeys, Maps.size]
  have hsub : bs ⊆ strKeys D := fun b hb => by
    obtain ⟨s, X, e, hX⟩ := (h.mem b).1 hb
    rw [hse.2, ← e]
    have h3 := hat s
    rw [hX] at h3
    exact h3.1
  have := List.Nodup.length_le_of_subset h.nodup hsub
  omega
/-- What Names gives. -/
structure NamesT (A : Fs) (v : Value) (l : List ByteArray) (w w' : World) : Prop where
  row : TxRow w' w.heap.size v l
  mem : ∀ s, s ∈ l ↔ (A.dir s).isSome = true
  nodup : l.Nodup
  few : l.length ≤ 1000
  lists : ∃ bs : List (List UInt8), l = bs.map (fun b => ⟨b.toArray⟩) ∧ NamesP A.dir v bs w w'
theorem bytes_ext {b : List UInt8} {s : ByteArray} (h : (⟨b.toArray⟩ : ByteArray) = s) : s.data.toList = b := by subst h; rfl
theorem bytes_of (s : ByteArray) : (⟨s.data.toList.toArray⟩ : ByteArray) = s := rfl
theorem Sto.names {w : World} {B F k : Nat} {A : Fs} (h : Sto w B F A k) (hk : k ≤ 1000) : Calls Try.prog 22 #[.pointer (some ⟨F, 0, none⟩)] w fun e w' => ∃ v l, e = .returned v ∧ NamesT A v l w w' := by
  obtain ⟨N, L, n, m, tv, h1, h2⟩ := h
  refine (names_any h1 (by omega)).mono ?_
  rintro e w' ⟨v, bs, rfl, hv⟩
  refine ⟨v, bs.map (fun b => ⟨b.toArray⟩), rfl, ⟨?_, fun s => ?_, ?_, by rw [List.length_map]; have := hv.few h1.names; omega, bs, rfl, hv⟩⟩
  · unfold TxRow
    rw [List.length_map, List.map_map]
    exact hv.own
  · rw [List.mem_map]
    constructor
    · rintro ⟨b, hb, e⟩
      obtain ⟨s', X, e2, hX⟩ := (hv.mem b).1 hb
      have : s' = s := by rw [← e, ← e2]
      rw [← this, hX]; rfl
    · intro hs
      obtain ⟨X, hX⟩ := Option.isSome_iff_exists.1 hs
      exact ⟨s.data.toList, (hv.mem _).2 ⟨s, X, rfl, hX⟩, rfl⟩
  · refine List.Pairwise.map _ (fun a b hab e => hab ?_) hv.nodup
    have := congrArg (fun x : ByteArray => x.data.toList) e
    simpa using this
/-- The same names give one list. -/
theorem NamesT.one {A A' : Fs} {v v' : Value} {l l' : List ByteArray} {a b c d : World} (h : NamesT A v l a b) (h' : NamesT A' v' l' c d) (hd : ∀ s, (A.dir s).isSome = (A'.dir s).isSome) : l = l' := by
  obtain ⟨bs, rfl, h1⟩ := h.lists
  obtain ⟨bs', rfl, h2⟩ := h'.lists
  have hm : ∀ x, x ∈ bs ↔ x ∈ bs' := fun x => by
    rw [h1.mem, h2.mem]
    constructor
    · rintro ⟨s, X, e, hX⟩
      have h3 := hd s
      rw [hX] at h3
      obtain ⟨Y, hY⟩ := Option.isSome_iff_exists.1 h3.symm
      exact ⟨s, Y, e, hY⟩
    · rintro ⟨s, X, e, hX⟩
      have h3 := hd s
      rw [hX] at h3
      obtain ⟨Y, hY⟩ := Option.isSome_iff_exists.1 h3
      exact ⟨s, Y, e, hY⟩
  have hp : bs.Perm bs' := (List.perm_ext_iff_of_nodup h1.nodup h2.nodup).2 hm
  have : bs = bs' := by
    refine List.Perm.eq_of_pairwise (le := fun a b => leB a b = true) (fun x y _ _ h3 h4 => ?_) h1.asc h2.asc hp
    simp only [decide_eq_true_eq] at h3 h4
    exact List.le_antisymm h3 h4
  rw [this]
set_option maxRecDepth 100000 in
set_option maxHeartbeats 4000000 in
/-- Two rows of the same texts are the same. -/
theorem texts_same {w : World} {B1 B2 : Nat} {v1 v2 : Value} {l : List ByteArray} (h1 : TxRow w B1 v1 l) (h2 : TxRow w B2 v2 l) (hl : l.length ≤ 100000) :
    Calls Try.prog 23 #[v1, v2] w fun e w' => e = .returned (.bool true) ∧ Below w.heap.size w w' := by
  obtain ⟨a1, c1, rfl, _⟩ := own_sl h1
  obtain ⟨a2, c2, rfl, _⟩ := own_sl h2
  have H1 := Lib.hid h1
  have H2 := Lib.hid h2
  obtain ⟨len, hlen⟩ : ∃ n, n = l.length := ⟨_, rfl⟩
  rw [← hlen] at hl ⊢
  have HLEN := Lib.hid hlen
  clear h1 h2 hlen
  go_enter Try.func23, Try.ntmps23
  go_upto_region 4 with fail
  go_loopw [5] (fun i wr => ∃ q : Nat, i = .int .i64 q ∧ q ≤ len ∧ RowKit.Hid (Below w.heap.size w wr)) (fun i _ => len - (intOf i).toNat)
  case atStart => exact ⟨0, rfl, Nat.zero_le _, Lib.hid (Below.refl _ _)⟩
  case round =>
    obtain ⟨q, rfl, hq, HB⟩ := hrel
    by_cases hlt : q < len
    · obtain ⟨s, hs⟩ : ∃ s, l[q]? = some s := ⟨_, List.getElem?_eq_getElem (by rw [← HLEN.out]; exact hlt)⟩
      have h1 := H1.out.below HB.out
      have h2 := H2.out.below HB.out
      obtain ⟨g1, rfl, x1⟩ := tx_at h1 hs
      obtain ⟨g2, rfl, x2⟩ := tx_at h2 hs
      clear h1 h2 hs
      go_upto_region 6 with fail
      refine Inv.regionP (by kernel_rfl) ?_
      refine Inv.start0 ?_ (by kernel_rfl)
      refine Inv.regionT [0, 1, 2, 3, 4, 5, 6, 7] [] 8 [] [some 17, some 18, some 19, some 20, some 21, some 22, some 23, some 24, some 25] [[], [], [0, 1], [2], [], [], [4, 5], [6]] (by kernel_rfl) (by kernel_rfl) (by kernel_rfl) (by kernel_rfl) (by kernel_rfl) [Inv.MP.is (.slice (some ⟨g1, 0, none⟩) len c1), Inv.MP.is (.int .i64 (q : Nat)), Inv.MP.is (.pointer (some ⟨g1, q, none⟩)), Inv.MP.is (.string s), Inv.MP.is (.slice (some ⟨g2, 0, none⟩) len c2), Inv.MP.is (.int .i64 (q : Nat)), Inv.MP.is (.pointer (some ⟨g2, q, none⟩)), Inv.MP.is (.string s)] [] (by intro x hx; cases hx) _ (by kernel_rfl) ⟨?_, ?_, ?_, ?_, ?_, ?_, ?_, ?_, trivial⟩ (fun vs wq hbq hv htie => ?_)
      · intro vs w' hb hv K hK
        clear hv
        have hK2 := hK.out
        clear hK
        simp only [Inv.putD, Inv.dst, List.foldl_cons, List.foldl_nil, List.getD_cons_zero, List.getD_cons_succ, Act.put, List.setIfInBounds_toArray, List.set_cons_zero, List.set_cons_succ, List.filterMap_cons, List.filterMap_nil, List.getElem?_toArray, List.getElem?_cons_zero, List.getElem?_cons_succ, List.getElem_toArray, List.getElem_cons_zero, List.getElem_cons_succ] at hK2 ⊢
        have hK := Lib.hid hK2
        clear hK2
        simp only [Region.wanted, Inv.yieldedD, Inv.dst, List.getD_cons_zero, List.getD_cons_succ]
        go_simp
        refine hK.out _ _ (Eq.refl _) (Below.refl _ _) (Inv.noTies _ _ _ _ _)
      · intro vs w' hb hv K hK
        clear hv
        have hK2 := hK.out
        clear hK
        simp only [Inv.putD, Inv.dst, List.foldl_cons, List.foldl_nil, List.getD_cons_zero, List.getD_cons_succ, Act.put, List.setIfInBounds_toArray, List.set_cons_zero, List.set_cons_succ, List.filterMap_cons, List.filterMap_nil, List.getElem?_toArray, List.getElem?_cons_zero, List.getElem?_cons_succ, List.getElem_toArray, List.getElem_cons_zero, List.getElem_cons_succ] at hK2 ⊢
        have hK := Lib.hid hK2
        clear hK2
        simp only [Region.wanted, Inv.yieldedD, Inv.dst, List.getD_cons_zero, List.getD_cons_succ]
        go_simp
        refine hK.out _ _ (Eq.refl _) (Below.refl _ _) (Inv.noTies _ _ _ _ _)
      · intro vs w' hb hv K hK
        have h0 : (Inv.MP.is (.slice (some ⟨g1, 0, none⟩) len c1)).p (vs 0) w' := hv 0 (by simp)
        have h1 : (Inv.MP.is (.int .i64 (q : Nat))).p (vs 1) w' := hv 1 (by simp)
        clear hv
        have hK2 := hK.out
        clear hK
        simp only [Inv.putD, Inv.dst, List.foldl_cons, List.foldl_nil, List.getD_cons_zero, List.getD_cons_succ, Act.put, List.setIfInBounds_toArray, List.set_cons_zero, List.set_cons_succ, List.filterMap_cons, List.filterMap_nil, List.getElem?_toArray, List.getElem?_cons_zero, List.getElem?_cons_succ, List.getElem_toArray, List.getElem_cons_zero, List.getElem_cons_succ] at hK2 ⊢
        have hK := Lib.hid hK2
        clear hK2
        generalize vs 0 = y0 at *
        generalize vs 1 = y1 at *
        have h0 : y0 = _ := h0
        subst h0
        have h1 : y1 = _ := h1
        subst h1
        simp only [Region.wanted, Inv.yieldedD, Inv.dst, List.getD_cons_zero, List.getD_cons_succ]
        go_simp
        refine hK.out _ _ (Eq.refl _) (Below.refl _ _) (Inv.noTies _ _ _ _ _)
      · intro vs w' hb hv K hK
        have h2 : (Inv.MP.is (.pointer (some ⟨g1, q, none⟩))).p (vs 2) w' := hv 2 (by simp)
        clear hv
        have hK2 := hK.out
        clear hK
        simp only [Inv.putD, Inv.dst, List.foldl_cons, List.foldl_nil, List.getD_cons_zero, List.getD_cons_succ, Act.put, List.setIfInBounds_toArray, List.set_cons_zero, List.set_cons_succ, List.filterMap_cons, List.filterMap_nil, List.getElem?_toArray, List.getElem?_cons_zero, List.getElem?_cons_succ, List.getElem_toArray, List.getElem_cons_zero, List.getElem_cons_succ] at hK2 ⊢
        have hK := Lib.hid hK2
        clear hK2
        generalize vs 2 = y2 at *
        have h2 : y2 = _ := h2
        subst h2
        have x1b := (hb.cell (p := ⟨g1, q, none⟩) (World.block_lt_of_cell? _ _ x1)).trans x1
        simp only [Region.wanted, Inv.yieldedD, Inv.dst, List.getD_cons_zero, List.getD_cons_succ]
        go_simp
        refine hK.out _ _ (Eq.refl _) (Below.refl _ _) (Inv.noTies _ _ _ _ _)
      · intro vs w' hb hv K hK
        clear hv
        have hK2 := hK.out
        clear hK
        simp only [Inv.putD, Inv.dst, List.foldl_cons, List.foldl_nil, List.getD_cons_zero, List.getD_cons_succ, Act.put, List.setIfInBounds_toArray, List.set_cons_zero, List.set_cons_succ, List.filterMap_cons, List.filterMap_nil, List.getElem?_toArray, List.getElem?_cons_zero, List.getElem?_cons_succ, List.getElem_toArray, List.getElem_cons_zero, List.getElem_cons_succ] at hK2 ⊢
        have hK := Lib.hid hK2
        clear hK2
        simp only [Region.wanted, Inv.yieldedD, Inv.dst, List.getD_cons_zero, List.getD_cons_succ]
        go_simp
        refine hK.out _ _ (Eq.refl _) (Below.refl _ _) (Inv.noTies _ _ _ _ _)
      · intro vs w' hb hv K hK
        clear hv
        have hK2 := hK.out
        clear hK
        simp only [Inv.putD, Inv.dst, List.foldl_cons, List.foldl_nil, List.getD_cons_zero, List.getD_cons_succ, Act.put, List.setIfInBounds_toArray, List.set_cons_zero, List.set_cons_succ, List.filterMap_cons, List.filterMap_nil, List.getElem?_toArray, List.getElem?_cons_zero, List.getElem?_cons_succ, List.getElem_toArray, List.getElem_cons_zero, List.getElem_cons_succ] at hK2 ⊢
        have hK := Lib.hid hK2
        clear hK2
        simp only [Region.wanted, Inv.yieldedD, Inv.dst, List.getD_cons_zero, List.getD_cons_succ]
        go_simp
        refine hK.out _ _ (Eq.refl _) (Below.refl _ _) (Inv.noTies _ _ _ _ _)
      · intro vs w' hb hv K hK
        have h4 : (Inv.MP.is (.slice (some ⟨g2, 0, none⟩) len c2)).p (vs 4) w' := hv 4 (by simp)
        have h5 : (Inv.MP.is (.int .i64 (q : Nat))).p (vs 5) w' := hv 5 (by simp)
        clear hv
        have hK2 := hK.out
        clear hK
        simp only [Inv.putD, Inv.dst, List.foldl_cons, List.foldl_nil, List.getD_cons_zero, List.getD_cons_succ, Act.put, List.setIfInBounds_toArray, List.set_cons_zero, List.set_cons_succ, List.filterMap_cons, List.filterMap_nil, List.getElem?_toArray, List.getElem?_cons_zero, List.getElem?_cons_succ, List.getElem_toArray, List.getElem_cons_zero, List.getElem_cons_succ] at hK2 ⊢
        have hK := Lib.hid hK2
        clear hK2
        generalize vs 4 = y4 at *
        generalize vs 5 = y5 at *
        have h4 : y4 = _ := h4
        subst h4
        have h5 : y5 = _ := h5
        subst h5
        simp only [Region.wanted, Inv.yieldedD, Inv.dst, List.getD_cons_zero, List.getD_cons_succ]
        go_simp
        refine hK.out _ _ (Eq.refl _) (Below.refl _ _) (Inv.noTies _ _ _ _ _)
      · intro vs w' hb hv K hK
        have h6 : (Inv.MP.is (.pointer (some ⟨g2, q, none⟩))).p (vs 6) w' := hv 6 (by simp)
        clear hv
        have hK2 := hK.out
        clear hK
        simp only [Inv.putD, Inv.dst, List.foldl_cons, List.foldl_nil, List.getD_cons_zero, List.getD_cons_succ, Act.put, List.setIfInBounds_toArray, List.set_cons_zero, List.set_cons_succ, List.filterMap_cons, List.filterMap_nil, List.getElem?_toArray, List.getElem?_cons_zero, List.getElem?_cons_succ, List.getElem_toArray, List.getElem_cons_zero, List.getElem_cons_succ] at hK2 ⊢
        have hK := Lib.hid hK2
        clear hK2
        generalize vs 6 = y6 at *
        have h6 : y6 = _ := h6
        subst h6
        have x2b := (hb.cell (p := ⟨g2, q, none⟩) (World.block_lt_of_cell? _ _ x2)).trans x2
        simp only [Region.wanted, Inv.yieldedD, Inv.dst, List.getD_cons_zero, List.getD_cons_succ]
        go_simp
        refine hK.out _ _ (Eq.refl _) (Below.refl _ _) (Inv.noTies _ _ _ _ _)
      · have h3 : vs 3 = .string s := hv 3 (by simp)
        have h7 : vs 7 = .string s := hv 7 (by simp)
        clear hv htie
        simp only [Inv.putD, Inv.dst, List.foldl_cons, List.foldl_nil, List.getD_cons_zero, List.getD_cons_succ, Act.put, List.setIfInBounds_toArray, List.set_cons_zero, List.set_cons_succ, List.filterMap_cons, List.filterMap_nil, List.getElem?_toArray, List.getElem?_cons_zero, List.getElem?_cons_succ, List.getElem_toArray, List.getElem_cons_zero, List.getElem_cons_succ]
        generalize vs 0 = yy0 at *
        generalize vs 1 = yy1 at *
        generalize vs 2 = yy2 at *
        generalize vs 3 = yy3 at *
        generalize vs 4 = yy4 at *
        generalize vs 5 = yy5 at *
        generalize vs 6 = yy6 at *
        generalize vs 7 = yy7 at *
        subst h3 h7
        have HBQ := Lib.hid (HB.out.trans (hbq.mono HB.out.size))
        clear hbq x1 x2
        go_wp2
        exact ⟨⟨q + 1, by go_num, by omega, HBQ⟩, by simp [intOf]; omega⟩
    · obtain rfl : q = len := by omega
      go_wp2
      go_ret
      exact ⟨rfl, HB.out⟩
end Go.Proofs.Ytmfphnhdahaooaa
/- What the laws' own walks share: Play, an act handed in by value. -/
namespace Go.Proofs.Ytmfphnhdahaooaa
open Go.RowKit Go.Maps
set_option linter.unusedSimpArgs false
set_option linter.unusedVariables false
theorem play_v {w : World} {ao : Option Addr} {l : List Ac} {c : Nat} (n : Int) (h : RowAc w ao l) (hl : l.length ≤ maxLen) :
    Calls Try.prog 16 #[.int .i64 n, .slice ao l.length c] w fun e w' => ∃ v, e = .returned v ∧ (v = .pointer none ∨ ∃ F A, v = .pointer (some ⟨F, 0, none⟩) ∧ PlayS w.heap.size w' F A) ∧ Below w.heap.size w w' := by
  refine (play_any n h hl).mono ?_
  rintro e w' ⟨rfl | ⟨F, A, rfl, h⟩, hb⟩
  · exact ⟨_, rfl, .inl rfl, hb⟩
  · exact ⟨_, rfl, .inr ⟨F, A, rfl, h⟩, hb⟩
def acC (a : Ac) : Array Value := #[.int .i64 a.kind, .string a.name, .string a.dst, .int .i64 a.at_, .int .i64 a.n, .int .u8 a.by_, .slice a.tao a.zs.length a.tc, .slice a.fo a.fl.length a.fc]
/-- An act, handed in by value. -/
structure AcArg (w : World) (a : Ac) : Prop where
  nums : NumOk a.at_ ∧ NumOk a.n
  name : a.name.size ≤ maxLen
  dst : a.dst.size ≤ maxLen
  turns : RowI w a.tao a.zs
  len : a.zs.length ≤ maxLen
  files : RowF w a.fo a.fl
  flen : a.fl.length ≤ maxLen
theorem AcArg.on {w w' : World} {a : Ac} (h : AcArg w a) (hb : Below w.heap.size w w') : AcArg w' a := ⟨h.nums, h.name, h.dst, h.turns.below hb (Nat.le_refl _), h.len, h.files.below hb, h.flen⟩
theorem AcArg.row {w : World} {a : Ac} {g : Nat} (h : AcArg w a) (hg : w.heap[g]? = some (.cells (acC a) 39 (0, 0))) : RowAc w (some ⟨g, 0, none⟩) [a] := by
  intro i x hx
  cases i with
  | zero =>
    obtain rfl : a = x := by simpa using hx
    exact ⟨h.nums, h.name, h.dst, h.turns, h.len, h.files, h.flen, g, 0, rfl, hb_at hg 0 rfl, hb_at hg 1 rfl, hb_at hg 2 rfl, hb_at hg 3 rfl, hb_at hg 4 rfl, hb_at hg 5 rfl, hb_at hg 6 rfl, hb_at hg 7 rfl⟩
  | succ i => simp at hx
theorem few_one {w : World} {a : Ac} (h : AcArg w a) : Calls Try.prog 13 #[.slice (some ⟨w.heap.size, 0, none⟩) 1 1] (w.alloc (.cells (acC a) 39)) fun e w' => FewP [a] e ∧ Below (w.alloc (.cells (acC a) 39)).heap.size (w.alloc (.cells (acC a) 39)) w' :=
  few_any (l := [a]) (c := 1) ((h.on (below_alloc w _)).row (hb_new w _)) (by show 1 ≤ maxLen; unfold maxLen; omega)
theorem Sto.used {w : World} {B F k : Nat} {A : Fs} (h : Sto w B F A k) : Calls Try.prog 24 #[.pointer (some ⟨F, 0, none⟩)] w fun e w' => e = .returned (.int .i64 A.used) ∧ w = w' := by
  obtain ⟨N, L, n, m, tv, h1, h2⟩ := h
  exact used_any h1
theorem Sto.offs {w : World} {B F k : Nat} {A : Fs} (h : Sto w B F A k) : Calls Try.prog 21 #[.pointer (some ⟨F, 0, none⟩)] w fun e w' => e = .returned (.bool A.off) ∧ w = w' := by
  obtain ⟨N, L, n, m, tv, h1, h2⟩ := h
  exact off_any h1
theorem Sto.nameP {w : World} {B F k : Nat} {A : Fs} (h : Sto w B F A k) {s : ByteArray} (hs : (A.dir s).isSome = true) : NameP s := by
  obtain ⟨N, L, n, m, tv, h1, h2⟩ := h
  obtain ⟨X, hX⟩ := Option.isSome_iff_exists.1 hs
  exact (h1.dirs s X hX).1
end Go.Proofs.Ytmfphnhdahaooaa
