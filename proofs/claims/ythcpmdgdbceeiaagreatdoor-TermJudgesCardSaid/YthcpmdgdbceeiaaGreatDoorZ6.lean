/- Texts in a row: S2 Te Tf. -/
import Derived.Shelf.SlGeneric
import Derived.Shelf.SlIter.Nil
import Derived.Shelf.SortM.Plain
import Derived.Shelf.SortM.SortNone
import Derived.Ground.GgzProg
import Derived.Ground.SlgmProg
import Derived.Test.YthcpmdgdbceeiaaGreatDoorProg
import Derived.Test.YthcpmdgdbceeiaaGreatDoorZ5
import Derived.Deep.QuietTactic
import Derived.BigQuiet
import Derived.Deep.DeepCutAuto
/-
  DERIVED: THE SHELF's CONTRACTS AT THIS DUMP, IN PLAIN WORDS (tools/lay-plain.mjs out of 'YthcpmdgdbceeiaaGreatDoorS2.lean', which tools/lay-shelf.mjs wrote): THE SAME DECLARATIONS UNDER THE SAME NAMES: 'import', 'namespace', 'open', 'def', 'theorem' AND NOTHING ELSE: no command of the shelf's: FOR A HAND-IN. Each laying: the table of numbers ('.._ren') and one theorem, a field a fact of the dump's own or the kernel's comparison; each contract: ONE APPLICATION.
-/
namespace Go.Proofs
open Go.Shelf
def Tryz.keys56_ren : Go.Shelf.Ren := ⟨fun | 7 => 56 | 10 => 63 | n => n, fun | 23 => 48 | 26 => 9 | 3 => 50 | 28 => 61 | 0 => 0 | 27 => 60 | 33 => 46 | 4 => 4 | n => n, fun | n => n⟩
theorem Tryz.keys56 : Go.Proofs.SlLaysZ.n7 Tryz.prog Tryz.keys56_ren := {
  mixed := by kernel_rfl
  f7 := ⟨Tryz.f56.name, by decide, Tryz.func56.trans (congrArg some (by kernel_rfl))⟩
  f10 := ⟨Tryz.f63.name, by decide, Tryz.func63.trans (congrArg some (by kernel_rfl))⟩
  t0 := Tryz.underlying0
  a0 := Tryz.isAgg0
  z0 := Tryz.sizeOf0
  v0 := Tryz.zeroValue0
  t4 := Tryz.underlying4
  a4 := Tryz.isAgg4
  z4 := Tryz.sizeOf4
  v4 := Tryz.zeroValue4
  t23 := Tryz.underlying48
  a23 := Tryz.isAgg48
  z23 := Tryz.sizeOf48
  v23 := Tryz.zeroValue48
  t26 := Tryz.underlying9
  a26 := Tryz.isAgg9
  z26 := Tryz.sizeOf9
  v26 := Tryz.zeroValue9
  t27 := Tryz.underlying60
  a27 := Tryz.isAgg60
  z27 := Tryz.sizeOf60
  v27 := Tryz.zeroValue60
  t28 := Tryz.underlying61
  a28 := Tryz.isAgg61
  z28 := Tryz.sizeOf61
  v28 := Tryz.zeroValue61
  t33 := Tryz.underlying46
  a33 := Tryz.isAgg46
  z33 := Tryz.sizeOf46
  v33 := Tryz.zeroValue46 }
def Tryz.sorted55_ren : Go.Shelf.Ren := ⟨fun | 6 => 55 | 8 => 61 | 9 => 62 | 11 => 69 | 13 => 71 | 12 => 70 | 23 => 105 | 24 => 106 | 14 => 96 | 15 => 97 | 16 => 98 | 17 => 99 | 18 => 100 | 19 => 101 | 20 => 102 | 21 => 103 | 22 => 104 | 25 => 121 | 26 => 122 | 27 => 123 | 28 => 124 | 29 => 125 | 30 => 126 | 31 => 135 | n => n, fun | 26 => 9 | 28 => 61 | 24 => 29 | 0 => 0 | 3 => 3 | 37 => 76 | 48 => 94 | 50 => 96 | 4 => 4 | 40 => 88 | 39 => 87 | 45 => 53 | 5 => 5 | 9 => 9 | 51 => 117 | 55 => 121 | 57 => 131 | 58 => 129 | 33 => 46 | n => n, fun | n => n⟩
theorem Tryz.sorted55 : Go.Proofs.SlLaysZ.n6 Tryz.prog Tryz.sorted55_ren := {
  mixed := by kernel_rfl
  f6 := ⟨Tryz.f55.name, by decide, Tryz.func55.trans (congrArg some (by kernel_rfl))⟩
  f8 := ⟨Tryz.f61.name, by decide, Tryz.func61.trans (congrArg some (by kernel_rfl))⟩
  f11 := ⟨Tryz.f69.name, by decide, Tryz.func69.trans (congrArg some (by kernel_rfl))⟩
  t0 := Tryz.underlying0
  a0 := Tryz.isAgg0
  z0 := Tryz.sizeOf0
  v0 := Tryz.zeroValue0
  t24 := Tryz.underlying29
  a24 := Tryz.isAgg29
  z24 := Tryz.sizeOf29
  v24 := Tryz.zeroValue29
  t26 := Tryz.underlying9
  a26 := Tryz.isAgg9
  z26 := Tryz.sizeOf9
  v26 := Tryz.zeroValue9
  t28 := Tryz.underlying61
  a28 := Tryz.isAgg61
  z28 := Tryz.sizeOf61
  v28 := Tryz.zeroValue61
  i26 := by kernel_rfl }
def Tryz.sort62_ren : Go.Shelf.Ren := ⟨fun | 6 => 62 | 8 => 71 | 9 => 70 | 19 => 105 | 20 => 106 | 21 => 96 | 22 => 97 | 23 => 98 | 24 => 99 | 25 => 100 | 26 => 101 | 27 => 102 | 28 => 103 | 29 => 104 | 36 => 121 | 31 => 122 | 32 => 123 | 37 => 124 | 38 => 125 | 39 => 126 | 41 => 135 | n => n, fun | 27 => 29 | 29 => 9 | 3 => 3 | 32 => 76 | 26 => 29 | 0 => 0 | 44 => 94 | 46 => 96 | 4 => 4 | 36 => 88 | 35 => 87 | 41 => 53 | 5 => 5 | 9 => 9 | 53 => 117 | 57 => 121 | 63 => 131 | 64 => 129 | n => n, fun | n => n⟩
theorem Tryz.sort62 : Go.Proofs.SlLaysM.n6 Tryz.prog Tryz.sort62_ren := {
  mixed := by kernel_rfl
  f6 := ⟨Tryz.f62.name, by decide, Tryz.func62.trans (congrArg some (by kernel_rfl))⟩
  f8 := Tryz.func71.trans (congrArg some (by kernel_rfl))
  f9 := ⟨Tryz.f70.name, by decide, Tryz.func70.trans (congrArg some (by kernel_rfl))⟩
  f19 := Tryz.func105.trans (congrArg some (by kernel_rfl))
  f20 := Tryz.func106.trans (congrArg some (by kernel_rfl))
  f21 := ⟨Tryz.f96.name, by decide, Tryz.func96.trans (congrArg some (by kernel_rfl))⟩
  f22 := ⟨Tryz.f97.name, by decide, Tryz.func97.trans (congrArg some (by kernel_rfl))⟩
  f23 := ⟨Tryz.f98.name, by decide, Tryz.func98.trans (congrArg some (by kernel_rfl))⟩
  f24 := ⟨Tryz.f99.name, by decide, Tryz.func99.trans (congrArg some (by kernel_rfl))⟩
  f25 := ⟨Tryz.f100.name, by decide, Tryz.func100.trans (congrArg some (by kernel_rfl))⟩
  f26 := ⟨Tryz.f101.name, by decide, Tryz.func101.trans (congrArg some (by kernel_rfl))⟩
  f27 := ⟨Tryz.f102.name, by decide, Tryz.func102.trans (congrArg some (by kernel_rfl))⟩
  f28 := ⟨Tryz.f103.name, by decide, Tryz.func103.trans (congrArg some (by kernel_rfl))⟩
  f29 := ⟨Tryz.f104.name, by decide, Tryz.func104.trans (congrArg some (by kernel_rfl))⟩
  f31 := Tryz.func122.trans (congrArg some (by kernel_rfl))
  f32 := Tryz.func123.trans (congrArg some (by kernel_rfl))
  f36 := ⟨Tryz.f121.name, by decide, Tryz.func121.trans (congrArg some (by kernel_rfl))⟩
  f37 := ⟨Tryz.f124.name, by decide, Tryz.func124.trans (congrArg some (by kernel_rfl))⟩
  f38 := ⟨Tryz.f125.name, by decide, Tryz.func125.trans (congrArg some (by kernel_rfl))⟩
  f39 := ⟨Tryz.f126.name, by decide, Tryz.func126.trans (congrArg some (by kernel_rfl))⟩
  f41 := ⟨Tryz.f135.name, by decide, Tryz.func135.trans (congrArg some (by kernel_rfl))⟩
  t0 := Tryz.underlying0
  a0 := Tryz.isAgg0
  z0 := Tryz.sizeOf0
  v0 := Tryz.zeroValue0
  t3 := Tryz.underlying3
  a3 := Tryz.isAgg3
  z3 := Tryz.sizeOf3
  v3 := Tryz.zeroValue3
  t4 := Tryz.underlying4
  a4 := Tryz.isAgg4
  z4 := Tryz.sizeOf4
  v4 := Tryz.zeroValue4
  t5 := Tryz.underlying5
  a5 := Tryz.isAgg5
  z5 := Tryz.sizeOf5
  v5 := Tryz.zeroValue5
  t9 := Tryz.underlying9
  a9 := Tryz.isAgg9
  z9 := Tryz.sizeOf9
  v9 := Tryz.zeroValue9
  t26 := Tryz.underlying29
  a26 := Tryz.isAgg29
  z26 := Tryz.sizeOf29
  v26 := Tryz.zeroValue29
  t27 := Tryz.underlying29
  a27 := Tryz.isAgg29
  z27 := Tryz.sizeOf29
  v27 := Tryz.zeroValue29
  t29 := Tryz.underlying9
  a29 := Tryz.isAgg9
  z29 := Tryz.sizeOf9
  v29 := Tryz.zeroValue9
  t32 := Tryz.underlying76
  a32 := Tryz.isAgg76
  z32 := Tryz.sizeOf76
  v32 := Tryz.zeroValue76
  t35 := Tryz.underlying87
  a35 := Tryz.isAgg87
  z35 := Tryz.sizeOf87
  v35 := Tryz.zeroValue87
  t36 := Tryz.underlying88
  a36 := Tryz.isAgg88
  z36 := Tryz.sizeOf88
  v36 := Tryz.zeroValue88
  t41 := Tryz.underlying53
  a41 := Tryz.isAgg53
  z41 := Tryz.sizeOf53
  v41 := Tryz.zeroValue53
  t44 := Tryz.underlying94
  a44 := Tryz.isAgg94
  z44 := Tryz.sizeOf94
  v44 := Tryz.zeroValue94
  t46 := Tryz.underlying96
  a46 := Tryz.isAgg96
  z46 := Tryz.sizeOf96
  v46 := Tryz.zeroValue96
  t53 := Tryz.underlying117
  a53 := Tryz.isAgg117
  z53 := Tryz.sizeOf117
  v53 := Tryz.zeroValue117
  t57 := Tryz.underlying121
  a57 := Tryz.isAgg121
  z57 := Tryz.sizeOf121
  v57 := Tryz.zeroValue121
  t63 := Tryz.underlying131
  a63 := Tryz.isAgg131
  z63 := Tryz.sizeOf131
  v63 := Tryz.zeroValue131
  t64 := Tryz.underlying129
  a64 := Tryz.isAgg129
  z64 := Tryz.sizeOf129
  v64 := Tryz.zeroValue129 }
end Go.Proofs
/- Free, of the program, at the chapter's example. -/
namespace Go.Proofs.YthcpmdgdbceeiaaGreatDoor
open Go.RowKit Go.Maps Go.Sort Go.Shelf
theorem sorts55 (m : Nat) : AnyZ.SortsIn Tryz.prog Tryz.sorted55_ren Fence.wide m :=
  ⟨fun blk off cap ss W hH hblk hsz => callsIn_wide.2 (AnyM.slices_Sort_string Tryz.sort62 blk off cap ss W hH hblk hsz),
   fun p cap W => callsIn_wide.2 (AnyM.slices_Sort_string_none Tryz.sort62 p cap W)⟩
theorem keys_ok (mb : Option Nat) (W : World) : Calls Tryz.prog 56 #[.map mb] W fun e w' => e = .returned (.func (.func 63) #[] #[.pointer (some ⟨W.heap.size, 0, none⟩)]) ∧ w' = W.alloc (.cells #[.map mb] 48) :=
  callsIn_wide.1 (AnyZ.keys_in Tryz.keys56 Fence.wide 5 trivial rfl mb W)
set_option maxRecDepth 100000 in
theorem str_entries {w : World} {b n : Nat} {R : Value → Option (DataW Unit × List MemPlace)} {D : DataW Unit} (h : w.ownsMap Tryz.prog 9 R b n D) : (strKeys D).Nodup ∧ ∀ l, l ∈ strKeys D ↔ Maps.has D (.string l) = true := by
  have hent := h.entries K9
  obtain ⟨es0, clock, hb, F, hs, hD⟩ := h
  obtain ⟨es, rfl, hpw, hk⟩ := hent
  have hstr : ∀ p ∈ es, ∃ l, p.1 = .string l := by
    intro p hp
    rw [DataW.map.inj hD] at hp
    obtain ⟨v, hv⟩ := Maps.fit_keys F p (mem_sorted.1 hp)
    cases v <;> simp [keyOf, Tryz.underlying9, mapKey] at hv
    exact ⟨_, hv.2.symm⟩
  have hof : ∀ p ∈ es, p.1 = .string (strOf p.1) := by
    intro p hp
    obtain ⟨l, hl⟩ := hstr p hp
    rw [hl]
    rfl
  refine ⟨?_, fun l => ?_⟩
  · show (es.map fun p => strOf p.1).Nodup
    unfold List.Nodup
    rw [List.pairwise_map]
    refine hpw.imp_of_mem fun {p q} hp hq hne e => hne ?_
    rw [hof p hp, hof q hq, e]
  · show l ∈ es.map (fun p => strOf p.1) ↔ es.any (fun p => p.1.sameKey (.string l)) = true
    rw [List.mem_map, List.any_eq_true]
    constructor
    · rintro ⟨p, hp, rfl⟩
      refine ⟨p, hp, ?_⟩
      obtain ⟨l, hl⟩ := hstr p hp
      rw [hl]
      simp [Lit.sameKey, strOf]
    · rintro ⟨p, hp, h⟩
      obtain ⟨l2, hl⟩ := hstr p hp
      rw [hl] at h
      simp [Lit.sameKey] at h
      exact ⟨p, hp, by rw [hl]; simp [strOf, h]⟩

theorem leB_trans : ∀ a b c : List UInt8, leB a b = true → leB b c = true → leB a c = true := fun a b c h1 h2 => by
  simp only [decide_eq_true_eq] at h1 h2 ⊢
  exact List.le_trans h1 h2
theorem leB_total : ∀ a b : List UInt8, (leB a b || leB b a) = true := fun a b => by
  simp only [Bool.or_eq_true, decide_eq_true_eq]
  exact List.le_total a b

/-- What Sorted answers of a set of one text. -/
def SortedOne (t : ByteArray) (w : World) (e : Ending) (w' : World) : Prop := ∃ v, e = .returned v ∧ w'.ownsRow w.heap.size 9 1 v 1 [.string t] ∧ Below w.heap.size w w'
set_option maxRecDepth 100000 in
set_option maxHeartbeats 1000000 in
theorem sorted_one {N n : Nat} {g : ByteArray → Bool} (t : ByteArray) (w : World) (h : SSet w N n g) (hn : n ≤ 100000) (hg : ∀ s, g s = true ↔ s = t) :
    Calls Tryz.prog 55 #[.func (.func 63) #[] #[.pointer (some ⟨w.heap.size, 0, none⟩)]] (w.alloc (.cells #[.map (some N)] 48)) (SortedOne t (w.alloc (.cells #[.map (some N)] 48))) := by
  obtain ⟨D, hown, hat⟩ := h
  have hbl := hown.lt
  have hse := str_entries hown
  have hsz := hown.size_le
  have hseq : SeqGives Fence.wide 2 Tryz.prog 63 #[.pointer (some ⟨w.heap.size, 0, none⟩)] encStr (fun ss => ss.Perm (strKeys (H := Unit) D)) (Maps.size D) (w.alloc (.cells #[.map (some N)] 48)) :=
    AnyZ.keys_gives (ρ := Tryz.keys56_ren) { Tryz.keys56 with } Fence.wide _ trivial rfl (by omega) w.heap.size N n D _ (by simp) (by simp) (by
      obtain ⟨es, clock, hb, Ft, hs, hD⟩ := hown
      exact ⟨es, clock, (Below.heap_alloc _ _ N hbl).trans hb, Ft, hs, hD⟩)
  have h := callsIn_wide.1 (AnyZ.sorted_in Tryz.sorted55 Fence.wide 5 trivial trivial trivial trivial rfl (by omega) (sorts55 _) (enters_of Tryz.func62 (by kernel_rfl) rfl) 63 #[.pointer (some ⟨w.heap.size, 0, none⟩)] trivial (enters_of Tryz.func63 (by kernel_rfl) rfl) _ (Maps.size D) (by unfold maxLen; omega) (by omega) _ hseq)
  refine h.mono fun e w' h2 => ?_
  obtain ⟨v, ss, rfl, hp, hr, hnil, hbw⟩ := h2
  have hms : (ss.mergeSort leB).Perm ss := List.mergeSort_perm ss leB
  have hone : ss.mergeSort leB = [t.data.toList] := by
    have hnd : (ss.mergeSort leB).Nodup := (hms.nodup_iff).2 ((hp.nodup_iff).2 hse.1)
    have hmem : ∀ b, b ∈ ss.mergeSort leB ↔ b = t.data.toList := by
      intro b
      rw [hms.mem_iff, hp.mem_iff, hse.2]
      have h3 := hat ⟨b.toArray⟩
      have h4 : Maps.has D (.string b) = g ⟨b.toArray⟩ := h3
      rw [h4, hg]
      constructor
      · intro e; rw [← e]
      · intro e; subst e; cases t; rfl
    have hperm : (ss.mergeSort leB).Perm [t.data.toList] := (List.perm_ext_iff_of_nodup hnd (by simp)).2 fun b => by rw [hmem b]; simp
    exact List.perm_singleton.1 hperm
  have hl : ss.length = 1 := by rw [← hms.length_eq, hone]; rfl
  rw [hone, hl] at hr
  refine ⟨v, rfl, ?_, hbw⟩
  have he : [t.data.toList].map encStr = [.string t] := by
    cases t
    rfl
  rw [← he]
  exact hr
/-- The chapter's example of an expression. -/
def tmF : Tm := .mk 21 ⟨#[]⟩ ⟨#[102]⟩ 0 []
def tmX : Tm := .mk 21 ⟨#[]⟩ ⟨#[120]⟩ 0 []
def tmApp : Tm := .mk 27 ⟨#[]⟩ ⟨#[]⟩ 0 [tmF, tmX]
def exE : Tm := .mk 26 ⟨#[]⟩ ⟨#[120]⟩ 0 [tmApp]
def fsAt (i : Nat) : ByteArray → Bool := if i = 0 then fun _ => false else fun t => decide (t = ⟨#[102]⟩) || false
def nfAt (i : Nat) : Nat := if i = 0 then 0 else 1
theorem free_walk (w0 : World) (Bf Bb Bw Mf Mb d : Nat) (v : Value) (w : World) (hT : IsT w0 d v exE) (hS : FreeSt w w0.heap.size Bf Bb Bw Mf Mb 0 0 (fun _ => false) (fun _ => 0)) (hB : Below w0.heap.size w0 w) :
    Calls Tryz.prog 52 #[v, .pointer (some ⟨Bb, 0, none⟩), .pointer (some ⟨Bf, 0, none⟩), .pointer (some ⟨Bw, 0, none⟩)] w (FreeQ w0 w Bf Bb Bw Mf Mb 1 (fun t => decide (t = ⟨#[102]⟩) || false)) := by
  obtain ⟨m, s, rfl, rfl, hk⟩ := IsT.eq hT
  obtain ⟨q, l, c, rfl⟩ := hk.slice
  have hl : l = 1 := by obtain ⟨_, _, e, _⟩ := hk; cases e; rfl
  subst hl
  refine free_fun w0 Bf Bb Bw Mf Mb 0 m tmApp ⟨#[120]⟩ (by decide) q c 0 1 (fun _ => false) _ (fun _ => 0) w hk hS hB rfl (by omega) fun v W hT2 hS2 hB2 => ?_
  obtain ⟨m2, s2, rfl, rfl, hk2⟩ := IsT.eq hT2
  obtain ⟨q2, l2, c2, rfl⟩ := hk2.slice
  have hl : l2 = 2 := by obtain ⟨_, _, e, _⟩ := hk2; cases e; rfl
  subst hl
  refine free_app w0 Bf Bb Bw Mf Mb 1 m2 [tmF, tmX] q2 c2 nfAt fsAt (upC (fun _ => 0) ⟨#[120]⟩ 1) W hk2 hS2 hB2 fun i x hx v W hT3 hS3 hB3 => ?_
  match i, hx with
  | 0, hx =>
    cases hx
    obtain ⟨m3, s3, rfl, rfl, hk3⟩ := IsT.eq hT3
    obtain ⟨q3, l3, c3, rfl⟩ := hk3.slice
    have hl : l3 = 0 := by obtain ⟨_, _, e, _⟩ := hk3; cases e; rfl
    subst hl
    exact free_var0 w0 Bf Bb Bw Mf Mb 0 1 ⟨#[102]⟩ (by decide) q3 c3 _ _ W hS3 hB3 (by decide) (by omega)
  | 1, hx =>
    cases hx
    obtain ⟨m3, s3, rfl, rfl, hk3⟩ := IsT.eq hT3
    obtain ⟨q3, l3, c3, rfl⟩ := hk3.slice
    have hl : l3 = 0 := by obtain ⟨_, _, e, _⟩ := hk3; cases e; rfl
    subst hl
    exact free_var1 w0 Bf Bb Bw Mf Mb 1 1 ⟨#[120]⟩ (by decide) q3 c3 _ _ W hS3 hB3 (by decide)
  | i + 2, hx => simp at hx
theorem own_base {w : World} {base base' : Nat} {e : TypeId} {size n : Nat} {v : Value} {xs : List Value} (h : w.ownsRow base e size v n xs) (hb : base' ≤ base) : w.ownsRow base' e size v n xs := by
  refine ⟨h.1, ?_⟩
  rcases h.2 with h1 | ⟨g, cap, cur, h1, h2, h3⟩
  · exact .inl h1
  · exact .inr ⟨g, cap, cur, h1, by omega, h3⟩
def FreeA (t : ByteArray) (w : World) (e : Ending) (w' : World) : Prop := ∃ v, e = .returned v ∧ w'.ownsRow w.heap.size 9 1 v 1 [.string t] ∧ Below w.heap.size w w'
set_option maxRecDepth 100000 in
set_option maxHeartbeats 1000000 in
theorem free_ex (d : Nat) (v : Value) (w : World) (hT : IsT w d v exE) : Calls Tryz.prog 28 #[v] w (FreeA ⟨#[102]⟩ w) := by
  have HW := Lib.hid (fun Bf Bb Bw Mf Mb W hS hB => free_walk w Bf Bb Bw Mf Mb d v W hT hS hB)
  obtain ⟨m, s, rfl, rfl, hk⟩ := IsT.eq hT
  obtain ⟨q, l, c, rfl⟩ := hk.slice
  clear hT hk
  have hmm := @run_makeMap Tryz.prog
  have c2 := hb_alloc (hb_alloc (hb_alloc (hb_new ((w.alloc (.cells #[.int .i64 26, .string ⟨#[]⟩, .string ⟨#[120]⟩, .int .i64 0, .slice q l c] 24)).alloc (.map #[] 0)) (.cells #[.map (some (w.heap.size + 1))] 48)) (.map #[] 0)) (.cells #[.map (some (w.heap.size + 1 + 1 + 1))] 52)) (.cells #[.func (.func 52) #[] #[.pointer (some ⟨w.heap.size + 1 + 1 + 1 + 1, 0, none⟩), .pointer (some ⟨w.heap.size + 1 + 1, 0, none⟩), .pointer (some ⟨w.heap.size + 1 + 1 + 1 + 1 + 1, 0, none⟩)]] 56)
  have c4 := hb_alloc (hb_new ((((w.alloc (.cells #[.int .i64 26, .string ⟨#[]⟩, .string ⟨#[120]⟩, .int .i64 0, .slice q l c] 24)).alloc (.map #[] 0)).alloc (.cells #[.map (some (w.heap.size + 1))] 48)).alloc (.map #[] 0)) (.cells #[.map (some (w.heap.size + 1 + 1 + 1))] 52)) (.cells #[.func (.func 52) #[] #[.pointer (some ⟨w.heap.size + 1 + 1 + 1 + 1, 0, none⟩), .pointer (some ⟨w.heap.size + 1 + 1, 0, none⟩), .pointer (some ⟨w.heap.size + 1 + 1 + 1 + 1 + 1, 0, none⟩)]] 56)
  have c5 := hb_new (((((w.alloc (.cells #[.int .i64 26, .string ⟨#[]⟩, .string ⟨#[120]⟩, .int .i64 0, .slice q l c] 24)).alloc (.map #[] 0)).alloc (.cells #[.map (some (w.heap.size + 1))] 48)).alloc (.map #[] 0)).alloc (.cells #[.map (some (w.heap.size + 1 + 1 + 1))] 52)) (.cells #[.func (.func 52) #[] #[.pointer (some ⟨w.heap.size + 1 + 1 + 1 + 1, 0, none⟩), .pointer (some ⟨w.heap.size + 1 + 1, 0, none⟩), .pointer (some ⟨w.heap.size + 1 + 1 + 1 + 1 + 1, 0, none⟩)]] 56)
  simp only [World.size_alloc] at c2 c4 c5
  have hset : SSet ((((((w.alloc (.cells #[.int .i64 26, .string ⟨#[]⟩, .string ⟨#[120]⟩, .int .i64 0, .slice q l c] 24)).alloc (.map #[] 0)).alloc (.cells #[.map (some (w.heap.size + 1))] 48)).alloc (.map #[] 0)).alloc (.cells #[.map (some (w.heap.size + 1 + 1 + 1))] 52)).alloc (.cells #[.func (.func 52) #[] #[.pointer (some ⟨w.heap.size + 1 + 1 + 1 + 1, 0, none⟩), .pointer (some ⟨w.heap.size + 1 + 1, 0, none⟩), .pointer (some ⟨w.heap.size + 1 + 1 + 1 + 1 + 1, 0, none⟩)]] 56)) (w.heap.size + 1) 0 (fun _ => false) := by
    have h := SSet.made (w.alloc (.cells #[.int .i64 26, .string ⟨#[]⟩, .string ⟨#[120]⟩, .int .i64 0, .slice q l c] 24))
    rw [World.size_alloc] at h
    exact h.kept fun x hx => hb_alloc (hb_alloc (hb_alloc (hb_alloc hx _) _) _) _
  have hcm : CMap ((((((w.alloc (.cells #[.int .i64 26, .string ⟨#[]⟩, .string ⟨#[120]⟩, .int .i64 0, .slice q l c] 24)).alloc (.map #[] 0)).alloc (.cells #[.map (some (w.heap.size + 1))] 48)).alloc (.map #[] 0)).alloc (.cells #[.map (some (w.heap.size + 1 + 1 + 1))] 52)).alloc (.cells #[.func (.func 52) #[] #[.pointer (some ⟨w.heap.size + 1 + 1 + 1 + 1, 0, none⟩), .pointer (some ⟨w.heap.size + 1 + 1, 0, none⟩), .pointer (some ⟨w.heap.size + 1 + 1 + 1 + 1 + 1, 0, none⟩)]] 56)) (w.heap.size + 1 + 1 + 1) 0 (fun _ => 0) := by
    have h := CMap.made (((w.alloc (.cells #[.int .i64 26, .string ⟨#[]⟩, .string ⟨#[120]⟩, .int .i64 0, .slice q l c] 24)).alloc (.map #[] 0)).alloc (.cells #[.map (some (w.heap.size + 1))] 48))
    simp only [World.size_alloc] at h
    exact h.kept fun x hx => hb_alloc (hb_alloc hx _) _
  have hS : FreeSt ((((((w.alloc (.cells #[.int .i64 26, .string ⟨#[]⟩, .string ⟨#[120]⟩, .int .i64 0, .slice q l c] 24)).alloc (.map #[] 0)).alloc (.cells #[.map (some (w.heap.size + 1))] 48)).alloc (.map #[] 0)).alloc (.cells #[.map (some (w.heap.size + 1 + 1 + 1))] 52)).alloc (.cells #[.func (.func 52) #[] #[.pointer (some ⟨w.heap.size + 1 + 1 + 1 + 1, 0, none⟩), .pointer (some ⟨w.heap.size + 1 + 1, 0, none⟩), .pointer (some ⟨w.heap.size + 1 + 1 + 1 + 1 + 1, 0, none⟩)]] 56)) w.heap.size (w.heap.size + 1 + 1) (w.heap.size + 1 + 1 + 1 + 1) (w.heap.size + 1 + 1 + 1 + 1 + 1) (w.heap.size + 1) (w.heap.size + 1 + 1 + 1) 0 0 (fun _ => false) (fun _ => 0) :=
    ⟨c2, c4, c5, ⟨0, Nat.le_refl _, hset⟩, ⟨0, Nat.le_refl _, hcm⟩, by omega, by omega, by omega, by omega, by omega, by omega⟩
  have hB : RowKit.Below w.heap.size w ((((((w.alloc (.cells #[.int .i64 26, .string ⟨#[]⟩, .string ⟨#[120]⟩, .int .i64 0, .slice q l c] 24)).alloc (.map #[] 0)).alloc (.cells #[.map (some (w.heap.size + 1))] 48)).alloc (.map #[] 0)).alloc (.cells #[.map (some (w.heap.size + 1 + 1 + 1))] 52)).alloc (.cells #[.func (.func 52) #[] #[.pointer (some ⟨w.heap.size + 1 + 1 + 1 + 1, 0, none⟩), .pointer (some ⟨w.heap.size + 1 + 1, 0, none⟩), .pointer (some ⟨w.heap.size + 1 + 1 + 1 + 1 + 1, 0, none⟩)]] 56)) := ((below2 w _ _).trans ((below2 _ _ _).mono (by simp; omega))).trans ((below2 _ _ _).mono (by simp; omega))
  have HC := Lib.hid (HW.out _ _ _ _ _ _ hS hB)
  clear c2 c4 c5 hset hcm hS hB HW
  go_enter Tryz.func28, Tryz.ntmps28
  go_wp2_with (first
    | (go_at_call 52; ((with_reducible refine HC.out.mono ?_); rintro e w2 ⟨rfl, nb, cs, hS, hB, hK⟩; have HS := Lib.hid hS; have HB := Lib.hid hB; have m0 := hb_at hS.free 0 rfl; obtain ⟨n, hn, hs⟩ := hS.set; have HSO := Lib.hid (sorted_one ⟨#[102]⟩ w2 hs (by omega) (fun s => by simp)); clear hS hB hK hs))
    | (go_at_call 56; ((with_reducible refine (keys_ok _ _).mono ?_); rintro e w' ⟨rfl, rfl⟩))
    | (go_at_call 55; ((with_reducible refine HSO.out.mono ?_); rintro e w3 ⟨v, rfl, ho, hb⟩)))
  go_ret
  have h2 := HB.out.alloc HB.out.size (.cells #[.map (some (w.heap.size + 1))] 48)
  exact ⟨v, rfl, own_base ho h2.size, h2.trans (hb.mono h2.size)⟩
end Go.Proofs.YthcpmdgdbceeiaaGreatDoor
/- Texts that are the same; a variable's term. -/
namespace Go.Proofs.YthcpmdgdbceeiaaGreatDoor
open Go.RowKit
/-- A slice of texts. -/
def SRow (w : World) (v : Value) (l : List ByteArray) : Prop := ∃ q c, v = .slice q l.length c ∧ ∀ i s, l[i]? = some s → ∃ g, q = some ⟨g, 0, none⟩ ∧ w.cell? ⟨g, i, none⟩ = some (.string s)
theorem SRow.own {w : World} {base n : Nat} {v : Value} {l : List ByteArray} (hn : n = l.length) (h : w.ownsRow base 9 1 v n (l.map .string)) : SRow w v l := by
  subst hn
  rcases h.2 with ⟨rfl, h0⟩ | ⟨g, cap, cur, rfl, _, hb, _, _, _, h4⟩
  · have : l = [] := List.eq_nil_of_length_eq_zero h0
    subst this
    exact ⟨none, 0, rfl, fun i s hs => by simp at hs⟩
  · refine ⟨_, cap, rfl, fun i s hs => ⟨g, rfl, ?_⟩⟩
    have hi : i < l.length := (List.getElem?_eq_some_iff.1 hs).1
    rw [hb_cell hb, ← Array.getElem?_toList, ← List.getElem?_take_of_lt (l := cur.toList) (i := i) (j := l.length * 1) (by omega), h4, List.getElem?_map, hs]
    rfl
theorem SRow.below {w w' : World} {v : Value} {l : List ByteArray} (h : SRow w v l) (hb : Below w.heap.size w w') : SRow w' v l := by
  obtain ⟨q, c, rfl, h⟩ := h
  refine ⟨q, c, rfl, fun i s hs => ?_⟩
  obtain ⟨g, rfl, hc⟩ := h i s hs
  exact ⟨g, rfl, keep_cell hb hc⟩
def Drew2 (w w' : World) : Prop := ∃ n, w' = w.drewN n
set_option maxRecDepth 100000 in
set_option maxHeartbeats 1000000 in
theorem texts_eq (va vb : Value) (l : List ByteArray) (w : World) (ha : SRow w va l) (hb : SRow w vb l) (hl : l.length ≤ 1000) :
    Calls Tryz.prog 21 #[va, vb] w fun e w' => e = .returned (.bool true) ∧ Drew2 w w' := by
  obtain ⟨q1, c1, rfl, h1⟩ := ha
  obtain ⟨q2, c2, rfl, h2⟩ := hb
  have H1 := Lib.hid h1
  have H2 := Lib.hid h2
  clear h1 h2
  go_enter Tryz.func21, Tryz.ntmps21
  go_wp2
  go_loopw [5] (fun i wr => ∃ k : Nat, k ≤ l.length ∧ i = .int .i64 k ∧ Drew2 w wr) (fun i _ => l.length - (intOf i).toNat)
  case atStart => exact ⟨0, Nat.zero_le _, rfl, 0, rfl⟩
  case round =>
    obtain ⟨k, hk, rfl, n, rfl⟩ := hrel
    by_cases hlt : k < l.length
    · obtain ⟨g1, e1, ha1⟩ := H1.out k l[k] (List.getElem?_eq_getElem hlt)
      obtain ⟨g2, e2, ha2⟩ := H2.out k l[k] (List.getElem?_eq_getElem hlt)
      subst e1 e2
      generalize l[k] = x at *
      have hki : (k : Int) < (l.length : Int) := by omega
      go_wp2
      go_quiet (fail)
      go_wp2
      go_roundw
      case rel => exact ⟨k + 1, by omega, by go_num, _, rfl⟩
      case measure => simp [intOf]; omega
    · go_wp2
      go_ret
      exact ⟨rfl, n, rfl⟩
set_option maxRecDepth 100000 in
theorem tv_any (s : ByteArray) (w : World) : Calls Tryz.prog 27 #[.string s] w fun e w' => e = .returned (tv 1 ⟨#[]⟩ s 0 (.slice none 0 0)) ∧ w' = w.alloc (.cells #[.int .i64 1, .string ⟨#[]⟩, .string s, .int .i64 0, .slice none 0 0] 24) := by
  go_enter Tryz.func27, Tryz.ntmps27
  go_wp2
  exact bodyPost_ret (v := tv 1 ⟨#[]⟩ s 0 (.slice none 0 0)) (by simp [results, Tryz.results27, go_sem]) rfl ⟨rfl, rfl⟩
/-- The chapter's example of a type. -/
def tmA : Tm := .mk 1 ⟨#[]⟩ ⟨#[97]⟩ 0 []
def tmB : Tm := .mk 1 ⟨#[]⟩ ⟨#[98]⟩ 0 []
def tmList : Tm := .mk 2 ⟨#[]⟩ ⟨#[108, 105, 115, 116]⟩ 0 [tmB, tmA]
def exT : Tm := .mk 3 ⟨#[]⟩ ⟨#[]⟩ 0 [tmA, tmList]
theorem kids_none (w : World) (d : Nat) : KidsT w d (.slice none 0 0) [] := ⟨none, 0, rfl, Nat.zero_le _, fun i x hx => by simp at hx⟩
theorem leaf_is (w : World) (d : Nat) (k : Int) (n : ByteArray) (hn : n.size ≤ maxLen) : IsT w (d + 1) (tv k ⟨#[]⟩ n 0 (.slice none 0 0)) (.mk k ⟨#[]⟩ n 0 []) := IsT.shut (Nat.zero_le _) hn (kids_none w d)
theorem kids_two {w : World} {d g : Nat} {k1 k2 N1 N2 : Int} {p1 n1 p2 n2 : ByteArray} {s1 s2 : Value} {x y : Tm} (h : w.heap[g]? = some (.cells #[.int .i64 k1, .string p1, .string n1, .int .i64 N1, s1, .int .i64 k2, .string p2, .string n2, .int .i64 N2, s2] 24 (0, 0)))
    (h1 : IsT w d (tv k1 p1 n1 N1 s1) x) (h2 : IsT w d (tv k2 p2 n2 N2 s2) y) : KidsT w d (.slice (some ⟨g, 0, none⟩) 2 2) [x, y] := by
  refine ⟨_, 2, rfl, by unfold maxLen; simp, fun i z hz => ?_⟩
  match i, hz with
  | 0, hz => cases hz; exact ⟨g, 0, k1, p1, n1, N1, s1, rfl, ⟨hb_at h 0 rfl, hb_at h 1 rfl, hb_at h 2 rfl, hb_at h 3 rfl, hb_at h 4 rfl⟩, h1⟩
  | 1, hz => cases hz; exact ⟨g, 0, k2, p2, n2, N2, s2, rfl, ⟨hb_at h 5 rfl, hb_at h 6 rfl, hb_at h 7 rfl, hb_at h 8 rfl, hb_at h 9 rfl⟩, h2⟩
  | i + 2, hz => simp at hz
theorem kids_one {w : World} {d g : Nat} {k1 N1 : Int} {p1 n1 : ByteArray} {s1 : Value} {x : Tm} (h : w.heap[g]? = some (.cells #[.int .i64 k1, .string p1, .string n1, .int .i64 N1, s1] 24 (0, 0)))
    (h1 : IsT w d (tv k1 p1 n1 N1 s1) x) : KidsT w d (.slice (some ⟨g, 0, none⟩) 1 1) [x] := by
  refine ⟨_, 1, rfl, by unfold maxLen; simp, fun i z hz => ?_⟩
  match i, hz with
  | 0, hz => cases hz; exact ⟨g, 0, k1, p1, n1, N1, s1, rfl, ⟨hb_at h 0 rfl, hb_at h 1 rfl, hb_at h 2 rfl, hb_at h 3 rfl, hb_at h 4 rfl⟩, h1⟩
  | i + 1, hz => simp at hz
theorem exT_type (d : Nat) : Holds 9 (d + 2) exT := by
  refine type_fun (d + 1) [tmA, tmList] rfl fun i x hx => ?_
  match i, hx with
  | 0, hx => cases hx; exact type_var (d + 1) ⟨#[97]⟩ ok_a
  | 1, hx =>
    cases hx
    refine type_con d ⟨#[108, 105, 115, 116]⟩ [tmB, tmA] ok_list fun i x hx => ?_
    match i, hx with
    | 0, hx => cases hx; exact type_var d ⟨#[98]⟩ ok_b
    | 1, hx => cases hx; exact type_var d ⟨#[97]⟩ ok_a
    | i + 2, hx => simp at hx
  | i + 2, hx => simp at hx
theorem exE_expr (d : Nat) : Holds 13 (d + 2) exE := by
  refine expr_fun (d + 1) ⟨#[120]⟩ [tmApp] ok_x rfl fun i x hx => ?_
  match i, hx with
  | 0, hx =>
    cases hx
    refine expr_app d [tmF, tmX] rfl fun i x hx => ?_
    match i, hx with
    | 0, hx => cases hx; exact expr_var d ⟨#[102]⟩ ok_f
    | 1, hx => cases hx; exact expr_var d ⟨#[120]⟩ ok_x
    | i + 2, hx => simp at hx
  | i + 1, hx => simp at hx
theorem exT_vars : [exT].foldl (varsT 3) [] = [⟨#[97]⟩, ⟨#[98]⟩] := by decide +kernel
theorem exT_room : [exT].foldl (fun n t => n + tszN 3 t) 0 ≤ 100000 := by decide +kernel
theorem exT_size : sz 3 exT = 5 := by decide +kernel
theorem srow_two {w : World} {g : Nat} {a b : ByteArray} (h : w.heap[g]? = some (.cells #[.string a, .string b] 9 (0, 0))) : SRow w (.slice (some ⟨g, 0, none⟩) 2 2) [a, b] :=
  ⟨_, 2, rfl, fun i s hs => ⟨g, rfl, by
    match i, hs with
    | 0, hs => cases hs; exact hb_at h 0 rfl
    | 1, hs => cases hs; exact hb_at h 1 rfl
    | i + 2, hs => simp at hs⟩⟩
theorem srow_one {w : World} {g : Nat} {a : ByteArray} (h : w.heap[g]? = some (.cells #[.string a] 9 (0, 0))) : SRow w (.slice (some ⟨g, 0, none⟩) 1 1) [a] :=
  ⟨_, 1, rfl, fun i s hs => ⟨g, rfl, by
    match i, hs with
    | 0, hs => cases hs; exact hb_at h 0 rfl
    | i + 1, hs => simp at hs⟩⟩
theorem size_lit (d : Nat) (v : Value) (x : Tm) (w : World) {n : Int} (h : IsT w d v x) (hn : sz d x = n) : Calls Tryz.prog 15 #[v] w fun e w' => e = .returned (.int .i64 n) ∧ Below w.heap.size w w' :=
  (size_any d v x w h).mono fun e w' ⟨h1, h2⟩ => ⟨by rw [h1, hn], h2⟩
/-- The two examples in memory. -/
structure ExSt (w W : World) : Prop where
  ty : W.heap[w.heap.size + 1 + 1 + 1 + 1 + 1]? = some (.cells #[.int .i64 3, .string ⟨#[]⟩, .string ⟨#[]⟩, .int .i64 0, .slice (some ⟨w.heap.size + 1 + 1 + 1 + 1, 0, none⟩) 2 2] 24 (0, 0))
  ex : W.heap[w.heap.size + 1 + 1 + 1 + 1 + 1 + 1 + 1 + 1]? = some (.cells #[.int .i64 26, .string ⟨#[]⟩, .string ⟨#[120]⟩, .int .i64 0, .slice (some ⟨w.heap.size + 1 + 1 + 1 + 1 + 1 + 1 + 1, 0, none⟩) 1 1] 24 (0, 0))
  tyT : IsT W 3 (tv 3 ⟨#[]⟩ ⟨#[]⟩ 0 (.slice (some ⟨w.heap.size + 1 + 1 + 1 + 1, 0, none⟩) 2 2)) exT
  exT : IsT W 3 (tv 26 ⟨#[]⟩ ⟨#[120]⟩ 0 (.slice (some ⟨w.heap.size + 1 + 1 + 1 + 1 + 1 + 1 + 1, 0, none⟩) 1 1)) exE
  below : Below w.heap.size w W
theorem ExSt.more {w W W' : World} (h : ExSt w W) (hb : Below W.heap.size W W') : ExSt w W' :=
  ⟨hb_below h.ty hb (hb_lt h.ty), hb_below h.ex hb (hb_lt h.ex), h.tyT.below hb, h.exT.below hb, h.below.trans (hb.mono h.below.size)⟩
theorem exSt_made (w : World) : ExSt w (((((((((w.alloc (.cells #[.int .i64 1, .string ⟨#[]⟩, .string ⟨#[97]⟩, .int .i64 0, .slice none 0 0] 24)).alloc (.cells #[.int .i64 1, .string ⟨#[]⟩, .string ⟨#[98]⟩, .int .i64 0, .slice none 0 0] 24)).alloc (.cells #[.int .i64 1, .string ⟨#[]⟩, .string ⟨#[97]⟩, .int .i64 0, .slice none 0 0] 24)).alloc (.cells #[.int .i64 1, .string ⟨#[]⟩, .string ⟨#[98]⟩, .int .i64 0, .slice none 0 0, .int .i64 1, .string ⟨#[]⟩, .string ⟨#[97]⟩, .int .i64 0, .slice none 0 0] 24)).alloc (.cells #[.int .i64 1, .string ⟨#[]⟩, .string ⟨#[97]⟩, .int .i64 0, .slice none 0 0, .int .i64 2, .string ⟨#[]⟩, .string ⟨#[108, 105, 115, 116]⟩, .int .i64 0, .slice (some ⟨w.heap.size + 1 + 1 + 1, 0, none⟩) 2 2] 24)).alloc (.cells #[.int .i64 3, .string ⟨#[]⟩, .string ⟨#[]⟩, .int .i64 0, .slice (some ⟨w.heap.size + 1 + 1 + 1 + 1, 0, none⟩) 2 2] 24)).alloc (.cells #[.int .i64 21, .string ⟨#[]⟩, .string ⟨#[102]⟩, .int .i64 0, .slice none 0 0, .int .i64 21, .string ⟨#[]⟩, .string ⟨#[120]⟩, .int .i64 0, .slice none 0 0] 24)).alloc (.cells #[.int .i64 27, .string ⟨#[]⟩, .string ⟨#[]⟩, .int .i64 0, .slice (some ⟨w.heap.size + 1 + 1 + 1 + 1 + 1 + 1, 0, none⟩) 2 2] 24)).alloc (.cells #[.int .i64 26, .string ⟨#[]⟩, .string ⟨#[120]⟩, .int .i64 0, .slice (some ⟨w.heap.size + 1 + 1 + 1 + 1 + 1 + 1 + 1, 0, none⟩) 1 1] 24)) := by
  have c3 := hb_alloc (hb_alloc (hb_alloc (hb_alloc (hb_alloc (hb_new (((w.alloc (.cells #[.int .i64 1, .string ⟨#[]⟩, .string ⟨#[97]⟩, .int .i64 0, .slice none 0 0] 24)).alloc (.cells #[.int .i64 1, .string ⟨#[]⟩, .string ⟨#[98]⟩, .int .i64 0, .slice none 0 0] 24)).alloc (.cells #[.int .i64 1, .string ⟨#[]⟩, .string ⟨#[97]⟩, .int .i64 0, .slice none 0 0] 24)) (.cells #[.int .i64 1, .string ⟨#[]⟩, .string ⟨#[98]⟩, .int .i64 0, .slice none 0 0, .int .i64 1, .string ⟨#[]⟩, .string ⟨#[97]⟩, .int .i64 0, .slice none 0 0] 24)) (.cells #[.int .i64 1, .string ⟨#[]⟩, .string ⟨#[97]⟩, .int .i64 0, .slice none 0 0, .int .i64 2, .string ⟨#[]⟩, .string ⟨#[108, 105, 115, 116]⟩, .int .i64 0, .slice (some ⟨w.heap.size + 1 + 1 + 1, 0, none⟩) 2 2] 24)) (.cells #[.int .i64 3, .string ⟨#[]⟩, .string ⟨#[]⟩, .int .i64 0, .slice (some ⟨w.heap.size + 1 + 1 + 1 + 1, 0, none⟩) 2 2] 24)) (.cells #[.int .i64 21, .string ⟨#[]⟩, .string ⟨#[102]⟩, .int .i64 0, .slice none 0 0, .int .i64 21, .string ⟨#[]⟩, .string ⟨#[120]⟩, .int .i64 0, .slice none 0 0] 24)) (.cells #[.int .i64 27, .string ⟨#[]⟩, .string ⟨#[]⟩, .int .i64 0, .slice (some ⟨w.heap.size + 1 + 1 + 1 + 1 + 1 + 1, 0, none⟩) 2 2] 24)) (.cells #[.int .i64 26, .string ⟨#[]⟩, .string ⟨#[120]⟩, .int .i64 0, .slice (some ⟨w.heap.size + 1 + 1 + 1 + 1 + 1 + 1 + 1, 0, none⟩) 1 1] 24)
  have c4 := hb_alloc (hb_alloc (hb_alloc (hb_alloc (hb_new ((((w.alloc (.cells #[.int .i64 1, .string ⟨#[]⟩, .string ⟨#[97]⟩, .int .i64 0, .slice none 0 0] 24)).alloc (.cells #[.int .i64 1, .string ⟨#[]⟩, .string ⟨#[98]⟩, .int .i64 0, .slice none 0 0] 24)).alloc (.cells #[.int .i64 1, .string ⟨#[]⟩, .string ⟨#[97]⟩, .int .i64 0, .slice none 0 0] 24)).alloc (.cells #[.int .i64 1, .string ⟨#[]⟩, .string ⟨#[98]⟩, .int .i64 0, .slice none 0 0, .int .i64 1, .string ⟨#[]⟩, .string ⟨#[97]⟩, .int .i64 0, .slice none 0 0] 24)) (.cells #[.int .i64 1, .string ⟨#[]⟩, .string ⟨#[97]⟩, .int .i64 0, .slice none 0 0, .int .i64 2, .string ⟨#[]⟩, .string ⟨#[108, 105, 115, 116]⟩, .int .i64 0, .slice (some ⟨w.heap.size + 1 + 1 + 1, 0, none⟩) 2 2] 24)) (.cells #[.int .i64 3, .string ⟨#[]⟩, .string ⟨#[]⟩, .int .i64 0, .slice (some ⟨w.heap.size + 1 + 1 + 1 + 1, 0, none⟩) 2 2] 24)) (.cells #[.int .i64 21, .string ⟨#[]⟩, .string ⟨#[102]⟩, .int .i64 0, .slice none 0 0, .int .i64 21, .string ⟨#[]⟩, .string ⟨#[120]⟩, .int .i64 0, .slice none 0 0] 24)) (.cells #[.int .i64 27, .string ⟨#[]⟩, .string ⟨#[]⟩, .int .i64 0, .slice (some ⟨w.heap.size + 1 + 1 + 1 + 1 + 1 + 1, 0, none⟩) 2 2] 24)) (.cells #[.int .i64 26, .string ⟨#[]⟩, .string ⟨#[120]⟩, .int .i64 0, .slice (some ⟨w.heap.size + 1 + 1 + 1 + 1 + 1 + 1 + 1, 0, none⟩) 1 1] 24)
  have c5 := hb_alloc (hb_alloc (hb_alloc (hb_new (((((w.alloc (.cells #[.int .i64 1, .string ⟨#[]⟩, .string ⟨#[97]⟩, .int .i64 0, .slice none 0 0] 24)).alloc (.cells #[.int .i64 1, .string ⟨#[]⟩, .string ⟨#[98]⟩, .int .i64 0, .slice none 0 0] 24)).alloc (.cells #[.int .i64 1, .string ⟨#[]⟩, .string ⟨#[97]⟩, .int .i64 0, .slice none 0 0] 24)).alloc (.cells #[.int .i64 1, .string ⟨#[]⟩, .string ⟨#[98]⟩, .int .i64 0, .slice none 0 0, .int .i64 1, .string ⟨#[]⟩, .string ⟨#[97]⟩, .int .i64 0, .slice none 0 0] 24)).alloc (.cells #[.int .i64 1, .string ⟨#[]⟩, .string ⟨#[97]⟩, .int .i64 0, .slice none 0 0, .int .i64 2, .string ⟨#[]⟩, .string ⟨#[108, 105, 115, 116]⟩, .int .i64 0, .slice (some ⟨w.heap.size + 1 + 1 + 1, 0, none⟩) 2 2] 24)) (.cells #[.int .i64 3, .string ⟨#[]⟩, .string ⟨#[]⟩, .int .i64 0, .slice (some ⟨w.heap.size + 1 + 1 + 1 + 1, 0, none⟩) 2 2] 24)) (.cells #[.int .i64 21, .string ⟨#[]⟩, .string ⟨#[102]⟩, .int .i64 0, .slice none 0 0, .int .i64 21, .string ⟨#[]⟩, .string ⟨#[120]⟩, .int .i64 0, .slice none 0 0] 24)) (.cells #[.int .i64 27, .string ⟨#[]⟩, .string ⟨#[]⟩, .int .i64 0, .slice (some ⟨w.heap.size + 1 + 1 + 1 + 1 + 1 + 1, 0, none⟩) 2 2] 24)) (.cells #[.int .i64 26, .string ⟨#[]⟩, .string ⟨#[120]⟩, .int .i64 0, .slice (some ⟨w.heap.size + 1 + 1 + 1 + 1 + 1 + 1 + 1, 0, none⟩) 1 1] 24)
  have c6 := hb_alloc (hb_alloc (hb_new ((((((w.alloc (.cells #[.int .i64 1, .string ⟨#[]⟩, .string ⟨#[97]⟩, .int .i64 0, .slice none 0 0] 24)).alloc (.cells #[.int .i64 1, .string ⟨#[]⟩, .string ⟨#[98]⟩, .int .i64 0, .slice none 0 0] 24)).alloc (.cells #[.int .i64 1, .string ⟨#[]⟩, .string ⟨#[97]⟩, .int .i64 0, .slice none 0 0] 24)).alloc (.cells #[.int .i64 1, .string ⟨#[]⟩, .string ⟨#[98]⟩, .int .i64 0, .slice none 0 0, .int .i64 1, .string ⟨#[]⟩, .string ⟨#[97]⟩, .int .i64 0, .slice none 0 0] 24)).alloc (.cells #[.int .i64 1, .string ⟨#[]⟩, .string ⟨#[97]⟩, .int .i64 0, .slice none 0 0, .int .i64 2, .string ⟨#[]⟩, .string ⟨#[108, 105, 115, 116]⟩, .int .i64 0, .slice (some ⟨w.heap.size + 1 + 1 + 1, 0, none⟩) 2 2] 24)).alloc (.cells #[.int .i64 3, .string ⟨#[]⟩, .string ⟨#[]⟩, .int .i64 0, .slice (some ⟨w.heap.size + 1 + 1 + 1 + 1, 0, none⟩) 2 2] 24)) (.cells #[.int .i64 21, .string ⟨#[]⟩, .string ⟨#[102]⟩, .int .i64 0, .slice none 0 0, .int .i64 21, .string ⟨#[]⟩, .string ⟨#[120]⟩, .int .i64 0, .slice none 0 0] 24)) (.cells #[.int .i64 27, .string ⟨#[]⟩, .string ⟨#[]⟩, .int .i64 0, .slice (some ⟨w.heap.size + 1 + 1 + 1 + 1 + 1 + 1, 0, none⟩) 2 2] 24)) (.cells #[.int .i64 26, .string ⟨#[]⟩, .string ⟨#[120]⟩, .int .i64 0, .slice (some ⟨w.heap.size + 1 + 1 + 1 + 1 + 1 + 1 + 1, 0, none⟩) 1 1] 24)
  have c7 := hb_alloc (hb_new (((((((w.alloc (.cells #[.int .i64 1, .string ⟨#[]⟩, .string ⟨#[97]⟩, .int .i64 0, .slice none 0 0] 24)).alloc (.cells #[.int .i64 1, .string ⟨#[]⟩, .string ⟨#[98]⟩, .int .i64 0, .slice none 0 0] 24)).alloc (.cells #[.int .i64 1, .string ⟨#[]⟩, .string ⟨#[97]⟩, .int .i64 0, .slice none 0 0] 24)).alloc (.cells #[.int .i64 1, .string ⟨#[]⟩, .string ⟨#[98]⟩, .int .i64 0, .slice none 0 0, .int .i64 1, .string ⟨#[]⟩, .string ⟨#[97]⟩, .int .i64 0, .slice none 0 0] 24)).alloc (.cells #[.int .i64 1, .string ⟨#[]⟩, .string ⟨#[97]⟩, .int .i64 0, .slice none 0 0, .int .i64 2, .string ⟨#[]⟩, .string ⟨#[108, 105, 115, 116]⟩, .int .i64 0, .slice (some ⟨w.heap.size + 1 + 1 + 1, 0, none⟩) 2 2] 24)).alloc (.cells #[.int .i64 3, .string ⟨#[]⟩, .string ⟨#[]⟩, .int .i64 0, .slice (some ⟨w.heap.size + 1 + 1 + 1 + 1, 0, none⟩) 2 2] 24)).alloc (.cells #[.int .i64 21, .string ⟨#[]⟩, .string ⟨#[102]⟩, .int .i64 0, .slice none 0 0, .int .i64 21, .string ⟨#[]⟩, .string ⟨#[120]⟩, .int .i64 0, .slice none 0 0] 24)) (.cells #[.int .i64 27, .string ⟨#[]⟩, .string ⟨#[]⟩, .int .i64 0, .slice (some ⟨w.heap.size + 1 + 1 + 1 + 1 + 1 + 1, 0, none⟩) 2 2] 24)) (.cells #[.int .i64 26, .string ⟨#[]⟩, .string ⟨#[120]⟩, .int .i64 0, .slice (some ⟨w.heap.size + 1 + 1 + 1 + 1 + 1 + 1 + 1, 0, none⟩) 1 1] 24)
  have c8 := hb_new ((((((((w.alloc (.cells #[.int .i64 1, .string ⟨#[]⟩, .string ⟨#[97]⟩, .int .i64 0, .slice none 0 0] 24)).alloc (.cells #[.int .i64 1, .string ⟨#[]⟩, .string ⟨#[98]⟩, .int .i64 0, .slice none 0 0] 24)).alloc (.cells #[.int .i64 1, .string ⟨#[]⟩, .string ⟨#[97]⟩, .int .i64 0, .slice none 0 0] 24)).alloc (.cells #[.int .i64 1, .string ⟨#[]⟩, .string ⟨#[98]⟩, .int .i64 0, .slice none 0 0, .int .i64 1, .string ⟨#[]⟩, .string ⟨#[97]⟩, .int .i64 0, .slice none 0 0] 24)).alloc (.cells #[.int .i64 1, .string ⟨#[]⟩, .string ⟨#[97]⟩, .int .i64 0, .slice none 0 0, .int .i64 2, .string ⟨#[]⟩, .string ⟨#[108, 105, 115, 116]⟩, .int .i64 0, .slice (some ⟨w.heap.size + 1 + 1 + 1, 0, none⟩) 2 2] 24)).alloc (.cells #[.int .i64 3, .string ⟨#[]⟩, .string ⟨#[]⟩, .int .i64 0, .slice (some ⟨w.heap.size + 1 + 1 + 1 + 1, 0, none⟩) 2 2] 24)).alloc (.cells #[.int .i64 21, .string ⟨#[]⟩, .string ⟨#[102]⟩, .int .i64 0, .slice none 0 0, .int .i64 21, .string ⟨#[]⟩, .string ⟨#[120]⟩, .int .i64 0, .slice none 0 0] 24)).alloc (.cells #[.int .i64 27, .string ⟨#[]⟩, .string ⟨#[]⟩, .int .i64 0, .slice (some ⟨w.heap.size + 1 + 1 + 1 + 1 + 1 + 1, 0, none⟩) 2 2] 24)) (.cells #[.int .i64 26, .string ⟨#[]⟩, .string ⟨#[120]⟩, .int .i64 0, .slice (some ⟨w.heap.size + 1 + 1 + 1 + 1 + 1 + 1 + 1, 0, none⟩) 1 1] 24)
  simp only [World.size_alloc] at c3 c4 c5 c6 c7 c8
  have hB : Below w.heap.size w (((((((((w.alloc (.cells #[.int .i64 1, .string ⟨#[]⟩, .string ⟨#[97]⟩, .int .i64 0, .slice none 0 0] 24)).alloc (.cells #[.int .i64 1, .string ⟨#[]⟩, .string ⟨#[98]⟩, .int .i64 0, .slice none 0 0] 24)).alloc (.cells #[.int .i64 1, .string ⟨#[]⟩, .string ⟨#[97]⟩, .int .i64 0, .slice none 0 0] 24)).alloc (.cells #[.int .i64 1, .string ⟨#[]⟩, .string ⟨#[98]⟩, .int .i64 0, .slice none 0 0, .int .i64 1, .string ⟨#[]⟩, .string ⟨#[97]⟩, .int .i64 0, .slice none 0 0] 24)).alloc (.cells #[.int .i64 1, .string ⟨#[]⟩, .string ⟨#[97]⟩, .int .i64 0, .slice none 0 0, .int .i64 2, .string ⟨#[]⟩, .string ⟨#[108, 105, 115, 116]⟩, .int .i64 0, .slice (some ⟨w.heap.size + 1 + 1 + 1, 0, none⟩) 2 2] 24)).alloc (.cells #[.int .i64 3, .string ⟨#[]⟩, .string ⟨#[]⟩, .int .i64 0, .slice (some ⟨w.heap.size + 1 + 1 + 1 + 1, 0, none⟩) 2 2] 24)).alloc (.cells #[.int .i64 21, .string ⟨#[]⟩, .string ⟨#[102]⟩, .int .i64 0, .slice none 0 0, .int .i64 21, .string ⟨#[]⟩, .string ⟨#[120]⟩, .int .i64 0, .slice none 0 0] 24)).alloc (.cells #[.int .i64 27, .string ⟨#[]⟩, .string ⟨#[]⟩, .int .i64 0, .slice (some ⟨w.heap.size + 1 + 1 + 1 + 1 + 1 + 1, 0, none⟩) 2 2] 24)).alloc (.cells #[.int .i64 26, .string ⟨#[]⟩, .string ⟨#[120]⟩, .int .i64 0, .slice (some ⟨w.heap.size + 1 + 1 + 1 + 1 + 1 + 1 + 1, 0, none⟩) 1 1] 24)) := (((below2 w _ _).trans ((below2 _ _ _).mono (by simp; omega))).trans ((below2 _ _ _).mono (by simp; omega))).trans (((below2 _ _ _).mono (by simp; omega)).trans ((below_alloc _ _).mono (by simp; omega)))
  have hn : ∀ (n : ByteArray), n.size ≤ 100 → n.size ≤ maxLen := fun n h => by unfold maxLen; omega
  refine ⟨c5, c8, IsT.shut (hn _ (by decide)) (hn _ (by decide)) (kids_two c4 ((leaf_is _ 0 1 _ (hn _ (by decide))).more (by omega)) (IsT.shut (hn _ (by decide)) (hn _ (by decide)) (kids_two c3 (leaf_is _ 0 1 _ (hn _ (by decide))) (leaf_is _ 0 1 _ (hn _ (by decide)))))), IsT.shut (hn _ (by decide)) (hn _ (by decide)) (kids_one c7 (IsT.shut (hn _ (by decide)) (hn _ (by decide)) (kids_two c6 (leaf_is _ 0 21 _ (hn _ (by decide))) (leaf_is _ 0 21 _ (hn _ (by decide)))))), hB⟩
set_option maxRecDepth 100000 in
set_option maxHeartbeats 4000000 in
theorem alive_ok (w : World) : Calls Tryz.prog 8 #[] w fun e w' => e = .returned (.bool true) ∧ Below w.heap.size w w' := by
  have HE := Lib.hid (exSt_made w)
  go_enter Tryz.func8, Tryz.ntmps8
  go_upto_region 3 with (go_at_call 27; ((with_reducible refine (tv_any _ _).mono ?_); rintro e w' ⟨rfl, rfl⟩))
  generalize hW : (((((((((w.alloc (.cells #[.int .i64 1, .string ⟨#[]⟩, .string ⟨#[97]⟩, .int .i64 0, .slice none 0 0] 24)).alloc (.cells #[.int .i64 1, .string ⟨#[]⟩, .string ⟨#[98]⟩, .int .i64 0, .slice none 0 0] 24)).alloc (.cells #[.int .i64 1, .string ⟨#[]⟩, .string ⟨#[97]⟩, .int .i64 0, .slice none 0 0] 24)).alloc (.cells #[.int .i64 1, .string ⟨#[]⟩, .string ⟨#[98]⟩, .int .i64 0, .slice none 0 0, .int .i64 1, .string ⟨#[]⟩, .string ⟨#[97]⟩, .int .i64 0, .slice none 0 0] 24)).alloc (.cells #[.int .i64 1, .string ⟨#[]⟩, .string ⟨#[97]⟩, .int .i64 0, .slice none 0 0, .int .i64 2, .string ⟨#[]⟩, .string ⟨#[108, 105, 115, 116]⟩, .int .i64 0, .slice (some ⟨w.heap.size + 1 + 1 + 1, 0, none⟩) 2 2] 24)).alloc (.cells #[.int .i64 3, .string ⟨#[]⟩, .string ⟨#[]⟩, .int .i64 0, .slice (some ⟨w.heap.size + 1 + 1 + 1 + 1, 0, none⟩) 2 2] 24)).alloc (.cells #[.int .i64 21, .string ⟨#[]⟩, .string ⟨#[102]⟩, .int .i64 0, .slice none 0 0, .int .i64 21, .string ⟨#[]⟩, .string ⟨#[120]⟩, .int .i64 0, .slice none 0 0] 24)).alloc (.cells #[.int .i64 27, .string ⟨#[]⟩, .string ⟨#[]⟩, .int .i64 0, .slice (some ⟨w.heap.size + 1 + 1 + 1 + 1 + 1 + 1, 0, none⟩) 2 2] 24)).alloc (.cells #[.int .i64 26, .string ⟨#[]⟩, .string ⟨#[120]⟩, .int .i64 0, .slice (some ⟨w.heap.size + 1 + 1 + 1 + 1 + 1 + 1 + 1, 0, none⟩) 1 1] 24)) = W at *
  clear hW
  have at0 : W.cell? ⟨w.heap.size + 1 + 1 + 1 + 1 + 1, 0, none⟩ = some (.int .i64 3) := hb_at HE.out.ty 0 rfl
  have at1 : W.cell? ⟨w.heap.size + 1 + 1 + 1 + 1 + 1, 1, none⟩ = some (.string ⟨#[]⟩) := hb_at HE.out.ty 1 rfl
  have at2 : W.cell? ⟨w.heap.size + 1 + 1 + 1 + 1 + 1, 2, none⟩ = some (.string ⟨#[]⟩) := hb_at HE.out.ty 2 rfl
  have at3 : W.cell? ⟨w.heap.size + 1 + 1 + 1 + 1 + 1, 3, none⟩ = some (.int .i64 0) := hb_at HE.out.ty 3 rfl
  have at4 : W.cell? ⟨w.heap.size + 1 + 1 + 1 + 1 + 1, 4, none⟩ = some (.slice (some ⟨w.heap.size + 1 + 1 + 1 + 1, 0, none⟩) 2 2) := hb_at HE.out.ty 4 rfl
  have HC9 := Lib.hid (exT_type 1 _ _ HE.out.tyT)
  go_wp2_with (first | (go_at_call 9; ((with_reducible refine HC9.out.mono ?_); rintro e w1 ⟨rfl, hb⟩; have HE1 := Lib.hid (HE.out.more hb); clear hb at0 at1 at2 at3 at4; have HC13 := Lib.hid (exE_expr 1 _ _ HE1.out.exT); have be0 : w1.cell? ⟨w.heap.size + 1 + 1 + 1 + 1 + 1 + 1 + 1 + 1, 0, none⟩ = some (.int .i64 26) := hb_at HE1.out.ex 0 rfl; have be1 : w1.cell? ⟨w.heap.size + 1 + 1 + 1 + 1 + 1 + 1 + 1 + 1, 1, none⟩ = some (.string ⟨#[]⟩) := hb_at HE1.out.ex 1 rfl; have be2 : w1.cell? ⟨w.heap.size + 1 + 1 + 1 + 1 + 1 + 1 + 1 + 1, 2, none⟩ = some (.string ⟨#[120]⟩) := hb_at HE1.out.ex 2 rfl; have be3 : w1.cell? ⟨w.heap.size + 1 + 1 + 1 + 1 + 1 + 1 + 1 + 1, 3, none⟩ = some (.int .i64 0) := hb_at HE1.out.ex 3 rfl; have be4 : w1.cell? ⟨w.heap.size + 1 + 1 + 1 + 1 + 1 + 1 + 1 + 1, 4, none⟩ = some (.slice (some ⟨w.heap.size + 1 + 1 + 1 + 1 + 1 + 1 + 1, 0, none⟩) 1 1) := hb_at HE1.out.ex 4 rfl)) | (go_at_call 13; ((with_reducible refine HC13.out.mono ?_); rintro e w2 ⟨rfl, hb⟩; have HE2 := Lib.hid (HE1.out.more hb); clear hb be0 be1 be2 be3 be4; have ce0 : w2.cell? ⟨w.heap.size + 1 + 1 + 1 + 1 + 1 + 1 + 1 + 1, 0, none⟩ = some (.int .i64 26) := hb_at HE2.out.ex 0 rfl; have ce1 : w2.cell? ⟨w.heap.size + 1 + 1 + 1 + 1 + 1 + 1 + 1 + 1, 1, none⟩ = some (.string ⟨#[]⟩) := hb_at HE2.out.ex 1 rfl; have ce2 : w2.cell? ⟨w.heap.size + 1 + 1 + 1 + 1 + 1 + 1 + 1 + 1, 2, none⟩ = some (.string ⟨#[120]⟩) := hb_at HE2.out.ex 2 rfl; have ce3 : w2.cell? ⟨w.heap.size + 1 + 1 + 1 + 1 + 1 + 1 + 1 + 1, 3, none⟩ = some (.int .i64 0) := hb_at HE2.out.ex 3 rfl; have ce4 : w2.cell? ⟨w.heap.size + 1 + 1 + 1 + 1 + 1 + 1 + 1 + 1, 4, none⟩ = some (.slice (some ⟨w.heap.size + 1 + 1 + 1 + 1 + 1 + 1 + 1, 0, none⟩) 1 1) := hb_at HE2.out.ex 4 rfl)) | (go_at_call 11; ((with_reducible refine (pat_no _ _ _ _ _ _ _).mono ?_); rintro e w3 ⟨rfl, hb⟩; have HE3 := Lib.hid (HE2.out.more hb); clear hb ce0 ce1 ce2 ce3 ce4; have HE3a := Lib.hid (HE3.out.more (below_alloc w3 (.cells #[.int .i64 3, .string ⟨#[]⟩, .string ⟨#[]⟩, .int .i64 0, .slice (some ⟨w.heap.size + 1 + 1 + 1 + 1, 0, none⟩) 2 2] 24))); have HC22 := Lib.hid (vars_any 3 [exT] (.slice (some ⟨w3.heap.size, 0, none⟩) 1 1) _ (kids_one (hb_new w3 (.cells #[.int .i64 3, .string ⟨#[]⟩, .string ⟨#[]⟩, .int .i64 0, .slice (some ⟨w.heap.size + 1 + 1 + 1 + 1, 0, none⟩) 2 2] 24)) HE3a.out.tyT) exT_room); have dt0 : w3.cell? ⟨w.heap.size + 1 + 1 + 1 + 1 + 1, 0, none⟩ = some (.int .i64 3) := hb_at HE3.out.ty 0 rfl; have dt1 : w3.cell? ⟨w.heap.size + 1 + 1 + 1 + 1 + 1, 1, none⟩ = some (.string ⟨#[]⟩) := hb_at HE3.out.ty 1 rfl; have dt2 : w3.cell? ⟨w.heap.size + 1 + 1 + 1 + 1 + 1, 2, none⟩ = some (.string ⟨#[]⟩) := hb_at HE3.out.ty 2 rfl; have dt3 : w3.cell? ⟨w.heap.size + 1 + 1 + 1 + 1 + 1, 3, none⟩ = some (.int .i64 0) := hb_at HE3.out.ty 3 rfl; have dt4 : w3.cell? ⟨w.heap.size + 1 + 1 + 1 + 1 + 1, 4, none⟩ = some (.slice (some ⟨w.heap.size + 1 + 1 + 1 + 1, 0, none⟩) 2 2) := hb_at HE3.out.ty 4 rfl)) | (go_at_call 22; ((with_reducible refine HC22.out.mono ?_); rintro e w4 ⟨v, rfl, ho, hb⟩; clear dt0 dt1 dt2 dt3 dt4; rw [exT_vars] at ho; have HE4 := Lib.hid (HE3a.out.more hb); have HC21 := Lib.hid (texts_eq v (.slice (some ⟨w4.heap.size, 0, none⟩) 2 2) [⟨#[97]⟩, ⟨#[98]⟩] (w4.alloc (.cells #[.string ⟨#[97]⟩, .string ⟨#[98]⟩] 9)) ((SRow.own rfl ho).below (below_alloc w4 _)) (srow_two (hb_new w4 (.cells #[.string ⟨#[97]⟩, .string ⟨#[98]⟩] 9))) (by decide)); clear hb ho)) | (go_at_call 21; ((with_reducible refine HC21.out.mono ?_); rintro e w5 ⟨rfl, n5, rfl⟩; have HE5 := Lib.hid (HE4.out.more (below_drewN (below_alloc w4 (.cells #[.string ⟨#[97]⟩, .string ⟨#[98]⟩] 9)) n5)); have HC28 := Lib.hid (free_ex 3 _ _ HE5.out.exT); have fe0 : ((w4.alloc (.cells #[.string ⟨#[97]⟩, .string ⟨#[98]⟩] 9)).drewN n5).cell? ⟨w.heap.size + 1 + 1 + 1 + 1 + 1 + 1 + 1 + 1, 0, none⟩ = some (.int .i64 26) := hb_at HE5.out.ex 0 rfl; have fe1 : ((w4.alloc (.cells #[.string ⟨#[97]⟩, .string ⟨#[98]⟩] 9)).drewN n5).cell? ⟨w.heap.size + 1 + 1 + 1 + 1 + 1 + 1 + 1 + 1, 1, none⟩ = some (.string ⟨#[]⟩) := hb_at HE5.out.ex 1 rfl; have fe2 : ((w4.alloc (.cells #[.string ⟨#[97]⟩, .string ⟨#[98]⟩] 9)).drewN n5).cell? ⟨w.heap.size + 1 + 1 + 1 + 1 + 1 + 1 + 1 + 1, 2, none⟩ = some (.string ⟨#[120]⟩) := hb_at HE5.out.ex 2 rfl; have fe3 : ((w4.alloc (.cells #[.string ⟨#[97]⟩, .string ⟨#[98]⟩] 9)).drewN n5).cell? ⟨w.heap.size + 1 + 1 + 1 + 1 + 1 + 1 + 1 + 1, 3, none⟩ = some (.int .i64 0) := hb_at HE5.out.ex 3 rfl; have fe4 : ((w4.alloc (.cells #[.string ⟨#[97]⟩, .string ⟨#[98]⟩] 9)).drewN n5).cell? ⟨w.heap.size + 1 + 1 + 1 + 1 + 1 + 1 + 1 + 1, 4, none⟩ = some (.slice (some ⟨w.heap.size + 1 + 1 + 1 + 1 + 1 + 1 + 1, 0, none⟩) 1 1) := hb_at HE5.out.ex 4 rfl)) | (go_at_call 28; ((with_reducible refine HC28.out.mono ?_); rintro e w6 ⟨v6, rfl, ho, hb⟩; clear fe0 fe1 fe2 fe3 fe4; have HE6 := Lib.hid (HE5.out.more hb); have HC21b := Lib.hid (texts_eq v6 (.slice (some ⟨w6.heap.size, 0, none⟩) 1 1) [⟨#[102]⟩] (w6.alloc (.cells #[.string ⟨#[102]⟩] 9)) ((SRow.own rfl ho).below (below_alloc w6 _)) (srow_one (hb_new w6 (.cells #[.string ⟨#[102]⟩] 9))) (by decide)); clear hb ho)) | (go_at_call 21; ((with_reducible refine HC21b.out.mono ?_); rintro e w7 ⟨rfl, n7, rfl⟩; have HE7 := Lib.hid (HE6.out.more (below_drewN (below_alloc w6 (.cells #[.string ⟨#[102]⟩] 9)) n7)); have HC15 := Lib.hid (size_lit _ _ _ _ HE7.out.tyT exT_size); have gt0 : ((w6.alloc (.cells #[.string ⟨#[102]⟩] 9)).drewN n7).cell? ⟨w.heap.size + 1 + 1 + 1 + 1 + 1, 0, none⟩ = some (.int .i64 3) := hb_at HE7.out.ty 0 rfl; have gt1 : ((w6.alloc (.cells #[.string ⟨#[102]⟩] 9)).drewN n7).cell? ⟨w.heap.size + 1 + 1 + 1 + 1 + 1, 1, none⟩ = some (.string ⟨#[]⟩) := hb_at HE7.out.ty 1 rfl; have gt2 : ((w6.alloc (.cells #[.string ⟨#[102]⟩] 9)).drewN n7).cell? ⟨w.heap.size + 1 + 1 + 1 + 1 + 1, 2, none⟩ = some (.string ⟨#[]⟩) := hb_at HE7.out.ty 2 rfl; have gt3 : ((w6.alloc (.cells #[.string ⟨#[102]⟩] 9)).drewN n7).cell? ⟨w.heap.size + 1 + 1 + 1 + 1 + 1, 3, none⟩ = some (.int .i64 0) := hb_at HE7.out.ty 3 rfl; have gt4 : ((w6.alloc (.cells #[.string ⟨#[102]⟩] 9)).drewN n7).cell? ⟨w.heap.size + 1 + 1 + 1 + 1 + 1, 4, none⟩ = some (.slice (some ⟨w.heap.size + 1 + 1 + 1 + 1, 0, none⟩) 2 2) := hb_at HE7.out.ty 4 rfl)) | (go_at_call 15; ((with_reducible refine HC15.out.mono ?_); rintro e w8 ⟨rfl, hb⟩; have HE8 := Lib.hid (HE7.out.more hb); clear hb)))
  go_ret
  exact ⟨rfl, HE8.out.below⟩end Go.Proofs.YthcpmdgdbceeiaaGreatDoor
