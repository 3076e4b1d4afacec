/- Free, of the program, at the chapter's example. -/
import Derived.Test.YthcpmdgdbceeiaaGreatDoorTd
import Derived.Test.YthcpmdgdbceeiaaGreatDoorS2
namespace Go.Proofs.YthcpmdgdbceeiaaGreatDoor
open Go.RowKit Go.Maps Go.Sort Go.Shelf
theorem sorts55 (m : Nat) : AnyZ.SortsIn Tryz.prog Tryz.sorted55_ren Fence.wide m :=
  ⟨fun blk off cap ss W hH hblk hsz => callsIn_wide.2 (AnyM.slices_Sort_string Tryz.sort62 blk off cap ss W hH hblk hsz),
   fun p cap W => callsIn_wide.2 (AnyM.slices_Sort_string_none Tryz.sort62 p cap W)⟩
theorem keys_ok (mb : Option Nat) (W : World) : Calls Tryz.prog 56 #[.map mb] W fun e w' => e = .returned (.func (.func 63) #[] #[.pointer (some ⟨W.heap.size, 0, none⟩)]) ∧ w' = W.alloc (.cells #[.map mb] 48) :=
  callsIn_wide.1 (AnyZ.keys_in Tryz.keys56 Fence.wide 5 trivial rfl mb W)
set_option maxRecDepth 100000 in
theorem str_entries {w : World} {b n : Nat} {R : Value → Option (DataW Unit × List MemPlace)} {D : DataW Unit} (h : w.ownsMap Tryz.prog 9 R b n D) : (strKeys D).Nodup ∧ ∀ l, l ∈ strKeys D ↔ Maps.has D (.string l) = true := by
  have hent := h.entries K9
  obtain ⟨es0, clock, hb, F, hs, hD⟩ := h
  obtain ⟨es, rfl, hpw, hk⟩ := hent
  have hstr : ∀ p ∈ es, ∃ l, p.1 = .string l := by
    intro p hp
    rw [DataW.map.inj hD] at hp
    obtain ⟨v, hv⟩ := Maps.fit_keys F p (mem_sorted.1 hp)
    cases v <;> simp [keyOf, Tryz.underlying9, mapKey] at hv
    exact ⟨_, hv.2.symm⟩
  have hof : ∀ p ∈ es, p.1 = .string (strOf p.1) := by
    intro p hp
    obtain ⟨l, hl⟩ := hstr p hp
    rw [hl]
    rfl
  refine ⟨?_, fun l => ?_⟩
  · show (es.map fun p => strOf p.1).Nodup
    unfold List.Nodup
    rw [List.pairwise_map]
    refine hpw.imp_of_mem fun {p q} hp hq hne e => hne ?_
    rw [hof p hp, hof q hq, e]
  · show l ∈ es.map (fun p => strOf p.1) ↔ es.any (fun p => p.1.sameKey (.string l)) = true
    rw [List.mem_map, List.any_eq_true]
    constructor
    · rintro ⟨p, hp, rfl⟩
      refine ⟨p, hp, ?_⟩
      obtain ⟨l, hl⟩ := hstr p hp
      rw [hl]
      simp [Lit.sameKey, strOf]
    · rintro ⟨p, hp, h⟩
      obtain ⟨l2, hl⟩ := hstr p hp
      rw [hl] at h
      simp [Lit.sameKey] at h
      exact ⟨p, hp, by rw [hl]; simp [strOf, h]⟩

theorem leB_trans : ∀ a b c : List UInt8, leB a b = true → leB b c = true → leB a c = true := fun a b c h1 h2 => by
  simp only [decide_eq_true_eq] at h1 h2 ⊢
  exact List.le_trans h1 h2
theorem leB_total : ∀ a b : List UInt8, (leB a b || leB b a) = true := fun a b => by
  simp only [Bool.or_eq_true, decide_eq_true_eq]
  exact List.le_total a b

/-- What Sorted answers of a set of one text. -/
def SortedOne (t : ByteArray) (w : World) (e : Ending) (w' : World) : Prop := ∃ v, e = .returned v ∧ w'.ownsRow w.heap.size 9 1 v 1 [.string t] ∧ Below w.heap.size w w'
set_option maxRecDepth 100000 in
set_option maxHeartbeats 1000000 in
theorem sorted_one {N n : Nat} {g : ByteArray → Bool} (t : ByteArray) (w : World) (h : SSet w N n g) (hn : n ≤ 100000) (hg : ∀ s, g s = true ↔ s = t) :
    Calls Tryz.prog 55 #[.func (.func 63) #[] #[.pointer (some ⟨w.heap.size, 0, none⟩)]] (w.alloc (.cells #[.map (some N)] 48)) (SortedOne t (w.alloc (.cells #[.map (some N)] 48))) := by
  obtain ⟨D, hown, hat⟩ := h
  have hbl := hown.lt
  have hse := str_entries hown
  have hsz := hown.size_le
  have hseq : SeqGives Fence.wide 2 Tryz.prog 63 #[.pointer (some ⟨w.heap.size, 0, none⟩)] encStr (fun ss => ss.Perm (strKeys (H := Unit) D)) (Maps.size D) (w.alloc (.cells #[.map (some N)] 48)) :=
    AnyZ.keys_gives (ρ := Tryz.keys56_ren) { Tryz.keys56 with } Fence.wide _ trivial rfl (by omega) w.heap.size N n D _ (by simp) (by simp) (by
      obtain ⟨es, clock, hb, Ft, hs, hD⟩ := hown
      exact ⟨es, clock, (Below.heap_alloc _ _ N hbl).trans hb, Ft, hs, hD⟩)
  have h := callsIn_wide.1 (AnyZ.sorted_in Tryz.sorted55 Fence.wide 5 trivial trivial trivial trivial rfl (by omega) (sorts55 _) (enters_of Tryz.func62 (by kernel_rfl) rfl) 63 #[.pointer (some ⟨w.heap.size, 0, none⟩)] trivial (enters_of Tryz.func63 (by kernel_rfl) rfl) _ (Maps.size D) (by unfold maxLen; omega) (by omega) _ hseq)
  refine h.mono fun e w' h2 => ?_
  obtain ⟨v, ss, rfl, hp, hr, hnil, hbw⟩ := h2
  have hms : (ss.mergeSort leB).Perm ss := List.mergeSort_perm ss leB
  have hone : ss.mergeSort leB = [t.data.toList] := by
    have hnd : (ss.mergeSort leB).Nodup := (hms.nodup_iff).2 ((hp.nodup_iff).2 hse.1)
    have hmem : ∀ b, b ∈ ss.mergeSort leB ↔ b = t.data.toList := by
      intro b
      rw [hms.mem_iff, hp.mem_iff, hse.2]
      have h3 := hat ⟨b.toArray⟩
      have h4 : Maps.has D (.string b) = g ⟨b.toArray⟩ := h3
      rw [h4, hg]
      constructor
      · intro e; rw [← e]
      · intro e; subst e; cases t; rfl
    have hperm : (ss.mergeSort leB).Perm [t.data.toList] := (List.perm_ext_iff_of_nodup hnd (by simp)).2 fun b => by rw [hmem b]; simp
    exact List.perm_singleton.1 hperm
  have hl : ss.length = 1 := by rw [← hms.length_eq, hone]; rfl
  rw [hone, hl] at hr
  refine ⟨v, rfl, ?_, hbw⟩
  have he : [t.data.toList].map encStr = [.string t] := by
    cases t
    rfl
  rw [← he]
  exact hr
/-- The chapter's example of an expression. -/
def tmF : Tm := .mk 21 ⟨#[]⟩ ⟨#[102]⟩ 0 []
def tmX : Tm := .mk 21 ⟨#[]⟩ ⟨#[120]⟩ 0 []
def tmApp : Tm := .mk 27 ⟨#[]⟩ ⟨#[]⟩ 0 [tmF, tmX]
def exE : Tm := .mk 26 ⟨#[]⟩ ⟨#[120]⟩ 0 [tmApp]
def fsAt (i : Nat) : ByteArray → Bool := if i = 0 then fun _ => false else fun t => decide (t = ⟨#[102]⟩) || false
def nfAt (i : Nat) : Nat := if i = 0 then 0 else 1
theorem free_walk (w0 : World) (Bf Bb Bw Mf Mb d : Nat) (v : Value) (w : World) (hT : IsT w0 d v exE) (hS : FreeSt w w0.heap.size Bf Bb Bw Mf Mb 0 0 (fun _ => false) (fun _ => 0)) (hB : Below w0.heap.size w0 w) :
    Calls Tryz.prog 52 #[v, .pointer (some ⟨Bb, 0, none⟩), .pointer (some ⟨Bf, 0, none⟩), .pointer (some ⟨Bw, 0, none⟩)] w (FreeQ w0 w Bf Bb Bw Mf Mb 1 (fun t => decide (t = ⟨#[102]⟩) || false)) := by
  obtain ⟨m, s, rfl, rfl, hk⟩ := IsT.eq hT
  obtain ⟨q, l, c, rfl⟩ := hk.slice
  have hl : l = 1 := by obtain ⟨_, _, e, _⟩ := hk; cases e; rfl
  subst hl
  refine free_fun w0 Bf Bb Bw Mf Mb 0 m tmApp ⟨#[120]⟩ (by decide) q c 0 1 (fun _ => false) _ (fun _ => 0) w hk hS hB rfl (by omega) fun v W hT2 hS2 hB2 => ?_
  obtain ⟨m2, s2, rfl, rfl, hk2⟩ := IsT.eq hT2
  obtain ⟨q2, l2, c2, rfl⟩ := hk2.slice
  have hl : l2 = 2 := by obtain ⟨_, _, e, _⟩ := hk2; cases e; rfl
  subst hl
  refine free_app w0 Bf Bb Bw Mf Mb 1 m2 [tmF, tmX] q2 c2 nfAt fsAt (upC (fun _ => 0) ⟨#[120]⟩ 1) W hk2 hS2 hB2 fun i x hx v W hT3 hS3 hB3 => ?_
  match i, hx with
  | 0, hx =>
    cases hx
    obtain ⟨m3, s3, rfl, rfl, hk3⟩ := IsT.eq hT3
    obtain ⟨q3, l3, c3, rfl⟩ := hk3.slice
    have hl : l3 = 0 := by obtain ⟨_, _, e, _⟩ := hk3; cases e; rfl
    subst hl
    exact free_var0 w0 Bf Bb Bw Mf Mb 0 1 ⟨#[102]⟩ (by decide) q3 c3 _ _ W hS3 hB3 (by decide) (by omega)
  | 1, hx =>
    cases hx
    obtain ⟨m3, s3, rfl, rfl, hk3⟩ := IsT.eq hT3
    obtain ⟨q3, l3, c3, rfl⟩ := hk3.slice
    have hl : l3 = 0 := by obtain ⟨_, _, e, _⟩ := hk3; cases e; rfl
    subst hl
    exact free_var1 w0 Bf Bb Bw Mf Mb 1 1 ⟨#[120]⟩ (by decide) q3 c3 _ _ W hS3 hB3 (by decide)
  | i + 2, hx => simp at hx
theorem own_base {w : World} {base base' : Nat} {e : TypeId} {size n : Nat} {v : Value} {xs : List Value} (h : w.ownsRow base e size v n xs) (hb : base' ≤ base) : w.ownsRow base' e size v n xs := by
  refine ⟨h.1, ?_⟩
  rcases h.2 with h1 | ⟨g, cap, cur, h1, h2, h3⟩
  · exact .inl h1
  · exact .inr ⟨g, cap, cur, h1, by omega, h3⟩
def FreeA (t : ByteArray) (w : World) (e : Ending) (w' : World) : Prop := ∃ v, e = .returned v ∧ w'.ownsRow w.heap.size 9 1 v 1 [.string t] ∧ Below w.heap.size w w'
set_option maxRecDepth 100000 in
set_option maxHeartbeats 1000000 in
theorem free_ex (d : Nat) (v : Value) (w : World) (hT : IsT w d v exE) : Calls Tryz.prog 28 #[v] w (FreeA ⟨#[102]⟩ w) := by
  have HW := Lib.hid (fun Bf Bb Bw Mf Mb W hS hB => free_walk w Bf Bb Bw Mf Mb d v W hT hS hB)
  obtain ⟨m, s, rfl, rfl, hk⟩ := IsT.eq hT
  obtain ⟨q, l, c, rfl⟩ := hk.slice
  clear hT hk
  have hmm := @run_makeMap Tryz.prog
  have c2 := hb_alloc (hb_alloc (hb_alloc (hb_new ((w.alloc (.cells #[.int .i64 26, .string ⟨#[]⟩, .string ⟨#[120]⟩, .int .i64 0, .slice q l c] 24)).alloc (.map #[] 0)) (.cells #[.map (some (w.heap.size + 1))] 48)) (.map #[] 0)) (.cells #[.map (some (w.heap.size + 1 + 1 + 1))] 52)) (.cells #[.func (.func 52) #[] #[.pointer (some ⟨w.heap.size + 1 + 1 + 1 + 1, 0, none⟩), .pointer (some ⟨w.heap.size + 1 + 1, 0, none⟩), .pointer (some ⟨w.heap.size + 1 + 1 + 1 + 1 + 1, 0, none⟩)]] 56)
  have c4 := hb_alloc (hb_new ((((w.alloc (.cells #[.int .i64 26, .string ⟨#[]⟩, .string ⟨#[120]⟩, .int .i64 0, .slice q l c] 24)).alloc (.map #[] 0)).alloc (.cells #[.map (some (w.heap.size + 1))] 48)).alloc (.map #[] 0)) (.cells #[.map (some (w.heap.size + 1 + 1 + 1))] 52)) (.cells #[.func (.func 52) #[] #[.pointer (some ⟨w.heap.size + 1 + 1 + 1 + 1, 0, none⟩), .pointer (some ⟨w.heap.size + 1 + 1, 0, none⟩), .pointer (some ⟨w.heap.size + 1 + 1 + 1 + 1 + 1, 0, none⟩)]] 56)
  have c5 := hb_new (((((w.alloc (.cells #[.int .i64 26, .string ⟨#[]⟩, .string ⟨#[120]⟩, .int .i64 0, .slice q l c] 24)).alloc (.map #[] 0)).alloc (.cells #[.map (some (w.heap.size + 1))] 48)).alloc (.map #[] 0)).alloc (.cells #[.map (some (w.heap.size + 1 + 1 + 1))] 52)) (.cells #[.func (.func 52) #[] #[.pointer (some ⟨w.heap.size + 1 + 1 + 1 + 1, 0, none⟩), .pointer (some ⟨w.heap.size + 1 + 1, 0, none⟩), .pointer (some ⟨w.heap.size + 1 + 1 + 1 + 1 + 1, 0, none⟩)]] 56)
  simp only [World.size_alloc] at c2 c4 c5
  have hset : SSet ((((((w.alloc (.cells #[.int .i64 26, .string ⟨#[]⟩, .string ⟨#[120]⟩, .int .i64 0, .slice q l c] 24)).alloc (.map #[] 0)).alloc (.cells #[.map (some (w.heap.size + 1))] 48)).alloc (.map #[] 0)).alloc (.cells #[.map (some (w.heap.size + 1 + 1 + 1))] 52)).alloc (.cells #[.func (.func 52) #[] #[.pointer (some ⟨w.heap.size + 1 + 1 + 1 + 1, 0, none⟩), .pointer (some ⟨w.heap.size + 1 + 1, 0, none⟩), .pointer (some ⟨w.heap.size + 1 + 1 + 1 + 1 + 1, 0, none⟩)]] 56)) (w.heap.size + 1) 0 (fun _ => false) := by
    have h := SSet.made (w.alloc (.cells #[.int .i64 26, .string ⟨#[]⟩, .string ⟨#[120]⟩, .int .i64 0, .slice q l c] 24))
    rw [World.size_alloc] at h
    exact h.kept fun x hx => hb_alloc (hb_alloc (hb_alloc (hb_alloc hx _) _) _) _
  have hcm : CMap ((((((w.alloc (.cells #[.int .i64 26, .string ⟨#[]⟩, .string ⟨#[120]⟩, .int .i64 0, .slice q l c] 24)).alloc (.map #[] 0)).alloc (.cells #[.map (some (w.heap.size + 1))] 48)).alloc (.map #[] 0)).alloc (.cells #[.map (some (w.heap.size + 1 + 1 + 1))] 52)).alloc (.cells #[.func (.func 52) #[] #[.pointer (some ⟨w.heap.size + 1 + 1 + 1 + 1, 0, none⟩), .pointer (some ⟨w.heap.size + 1 + 1, 0, none⟩), .pointer (some ⟨w.heap.size + 1 + 1 + 1 + 1 + 1, 0, none⟩)]] 56)) (w.heap.size + 1 + 1 + 1) 0 (fun _ => 0) := by
    have h := CMap.made (((w.alloc (.cells #[.int .i64 26, .string ⟨#[]⟩, .string ⟨#[120]⟩, .int .i64 0, .slice q l c] 24)).alloc (.map #[] 0)).alloc (.cells #[.map (some (w.heap.size + 1))] 48))
    simp only [World.size_alloc] at h
    exact h.kept fun x hx => hb_alloc (hb_alloc hx _) _
  have hS : FreeSt ((((((w.alloc (.cells #[.int .i64 26, .string ⟨#[]⟩, .string ⟨#[120]⟩, .int .i64 0, .slice q l c] 24)).alloc (.map #[] 0)).alloc (.cells #[.map (some (w.heap.size + 1))] 48)).alloc (.map #[] 0)).alloc (.cells #[.map (some (w.heap.size + 1 + 1 + 1))] 52)).alloc (.cells #[.func (.func 52) #[] #[.pointer (some ⟨w.heap.size + 1 + 1 + 1 + 1, 0, none⟩), .pointer (some ⟨w.heap.size + 1 + 1, 0, none⟩), .pointer (some ⟨w.heap.size + 1 + 1 + 1 + 1 + 1, 0, none⟩)]] 56)) w.heap.size (w.heap.size + 1 + 1) (w.heap.size + 1 + 1 + 1 + 1) (w.heap.size + 1 + 1 + 1 + 1 + 1) (w.heap.size + 1) (w.heap.size + 1 + 1 + 1) 0 0 (fun _ => false) (fun _ => 0) :=
    ⟨c2, c4, c5, ⟨0, Nat.le_refl _, hset⟩, ⟨0, Nat.le_refl _, hcm⟩, by omega, by omega, by omega, by omega, by omega, by omega⟩
  have hB : RowKit.Below w.heap.size w ((((((w.alloc (.cells #[.int .i64 26, .string ⟨#[]⟩, .string ⟨#[120]⟩, .int .i64 0, .slice q l c] 24)).alloc (.map #[] 0)).alloc (.cells #[.map (some (w.heap.size + 1))] 48)).alloc (.map #[] 0)).alloc (.cells #[.map (some (w.heap.size + 1 + 1 + 1))] 52)).alloc (.cells #[.func (.func 52) #[] #[.pointer (some ⟨w.heap.size + 1 + 1 + 1 + 1, 0, none⟩), .pointer (some ⟨w.heap.size + 1 + 1, 0, none⟩), .pointer (some ⟨w.heap.size + 1 + 1 + 1 + 1 + 1, 0, none⟩)]] 56)) := ((below2 w _ _).trans ((below2 _ _ _).mono (by simp; omega))).trans ((below2 _ _ _).mono (by simp; omega))
  have HC := Lib.hid (HW.out _ _ _ _ _ _ hS hB)
  clear c2 c4 c5 hset hcm hS hB HW
  go_enter Tryz.func28, Tryz.ntmps28
  go_wp2_with (first
    | (go_at_call 52; ((with_reducible refine HC.out.mono ?_); rintro e w2 ⟨rfl, nb, cs, hS, hB, hK⟩; have HS := Lib.hid hS; have HB := Lib.hid hB; have m0 := hb_at hS.free 0 rfl; obtain ⟨n, hn, hs⟩ := hS.set; have HSO := Lib.hid (sorted_one ⟨#[102]⟩ w2 hs (by omega) (fun s => by simp)); clear hS hB hK hs))
    | (go_at_call 56; ((with_reducible refine (keys_ok _ _).mono ?_); rintro e w' ⟨rfl, rfl⟩))
    | (go_at_call 55; ((with_reducible refine HSO.out.mono ?_); rintro e w3 ⟨v, rfl, ho, hb⟩)))
  go_ret
  have h2 := HB.out.alloc HB.out.size (.cells #[.map (some (w.heap.size + 1))] 48)
  exact ⟨v, rfl, own_base ho h2.size, h2.trans (hb.mono h2.size)⟩
end Go.Proofs.YthcpmdgdbceeiaaGreatDoor
