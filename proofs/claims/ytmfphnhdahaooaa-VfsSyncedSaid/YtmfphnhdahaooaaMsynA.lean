/- Write and Truncate of any store, once more: bytes that are no file's stay as they are. -/
import Derived.Test.YtmfphnhdahaooaaM14
set_option linter.unusedSimpArgs false
set_option linter.unusedVariables false
namespace Go.Proofs.Ytmfphnhdahaooaa
open Go.RowKit Go.Maps
set_option linter.unusedSimpArgs false
set_option linter.unusedVariables false
/-- A block that is no file's. -/
def Away (g : Nat) (A : Fs) : Prop := ∀ X f, A.file X = some f → f.bv.ownBlock ≠ some g
/-- Bytes that are no file's stay, and are no file's. -/
def K5 (A A' : Fs) (w w' : World) : Prop := ∀ (g : Nat) (cs : Array Value) (fr : Nat × Nat), w.heap[g]? = some (.cells cs 5 fr) → Away g A → w'.heap[g]? = some (.cells cs 5 fr) ∧ Away g A'
def OpK (B F : Nat) (A : Fs) (k : Nat) (R : Fs → Fs → Prop) (w : World) (e : Ending) (w' : World) : Prop :=
  ∃ (c : Int) (A' : Fs), e = .returned (.int .i64 c) ∧ Sto w' B F A' (k + 1) ∧ ((c ≠ 0 ∧ (A' = A ∨ A' = A.step)) ∨ (c = 0 ∧ A.code = 0 ∧ R A.step A')) ∧ Frm B w w' ∧ K5 A A' w w'
theorem K5.refl (A : Fs) (w : World) : K5 A A w w := fun g cs fr h ha => ⟨h, ha⟩
theorem K5.trans {A A1 A2 : Fs} {w w1 w2 : World} (h : K5 A A1 w w1) (k : K5 A1 A2 w1 w2) : K5 A A2 w w2 := fun g cs fr hg ha => by
  obtain ⟨h1, h2⟩ := h g cs fr hg ha
  exact k g cs fr h1 h2
theorem K5.of {A A' : Fs} {w w' : World} (h : ∀ (g : Nat) (cs : Array Value) (fr : Nat × Nat), w.heap[g]? = some (.cells cs 5 fr) → w'.heap[g]? = some (.cells cs 5 fr)) (hf : A'.file = A.file) : K5 A A' w w' := fun g cs fr hg ha => ⟨h g cs fr hg, fun X f hX => ha X f (by rw [← hf]; exact hX)⟩
theorem K5.grownF {A A' : Fs} {w w' : World} {F : Nat} {cs : Array Value} {fr : Nat × Nat} (hF : w.heap[F]? = some (.cells cs 82 fr)) (hg : w.grownBy w' (some F)) (hf : A'.file = A.file) : K5 A A' w w' :=
  K5.of (fun g cs2 fr2 h => hb_grown h hg (fun e => tag_ne h hF (by decide) (Option.some.inj e))) hf
theorem K5.grownF' {A A' : Fs} {w w' : World} {F : Nat} {cs : Array Value} {fr : Nat × Nat} (hF : w.heap[F]? = some (.cells cs 82 fr)) (hg : w.grownBy w' (some F)) (hf : A'.file = A.file) : K5 A A' w w' := K5.grownF hF hg hf
theorem K5.fresh {A A' : Fs} {w w' : World} {X : Nat} (h : ∀ (g : Nat) (cs : Array Value) (fr : Nat × Nat), w.heap[g]? = some (.cells cs 5 fr) → w'.heap[g]? = some (.cells cs 5 fr)) (hf : A'.file = updF A.file X emptyF) : K5 A A' w w' := fun g cs fr hg ha => by
  refine ⟨h g cs fr hg, fun Y f hY => ?_⟩
  rw [hf] at hY
  unfold updF at hY
  split at hY
  · obtain rfl := Option.some.inj hY
    simp [emptyF, Value.ownBlock]
  · exact ha Y f hY
theorem K5.cut {A A' : Fs} {w : World} {X i n c c2 : Nat} {ao : Option Addr} {lv : Value} {xs ls : List Value} {f' : Fil} {fr : Nat × Nat} {cs : Array Value} (hX : A.file X = some ⟨.slice ao n c, lv, xs, ls⟩) (hk : w.heap[X]? = some (.cells cs 85 fr)) (hf : A'.file = updF A.file X f') (hb : f'.bv = .slice ao i c2) : K5 A A' w (w.setCell ⟨X, 0, none⟩ (.slice ao i c2)) := fun g cs2 fr2 hg ha => by
  refine ⟨hb_set_other hg _ (tag_ne hg hk (by decide)), fun Y f hY => ?_⟩
  rw [hf] at hY
  unfold updF at hY
  split at hY
  · obtain rfl := Option.some.inj hY
    rw [hb]
    have := ha X _ hX
    cases ao with
    | none => simp [Value.ownBlock]
    | some a => exact this
  · exact ha Y f hY
theorem K5.put {A A' : Fs} {w w' : World} {B X a : Nat} {f f' : Fil} {news : List Value} {cs cs' : Array Value} {fr fr' : Nat × Nat} (hX : A.file X = some f) (hk : w.heap[X]? = some (.cells cs 85 fr)) (hp : PutG B X f.bv f.lv a f.xs news w w') (hb : w'.heap[X]? = some (.cells cs' 85 fr')) (hc : cs'[0]? = some f'.bv) (hf : A'.file = updF A.file X f') : K5 A A' w w' := fun g cs2 fr2 hg ha => by
  refine ⟨hp.kept g _ (tag_ne hg hk (by decide)) (fun e => ha X f hX e.symm) hg, fun Y h hY => ?_⟩
  rw [hf] at hY
  unfold updF at hY
  split at hY
  · obtain rfl := Option.some.inj hY
    obtain ⟨bv', h1, _, h3⟩ := hp.own
    rw [hb] at h1
    have e := Option.some.inj h1
    simp at e
    have e2 : f'.bv = bv' := by
      have h4 := hc
      rw [e.1] at h4
      simpa using h4.symm
    rw [e2]
    rcases h3 with e3 | ⟨g2, e3, hg2⟩
    · rw [e3]
      exact ha X f hX
    · rw [e3]
      intro e4
      have := hb_lt hg
      have := Option.some.inj e4
      omega
  · exact ha Y h hY
section
variable {w : World} {B F N L n m k : Nat} {A : Fs} {tv : Value}
theorem opk_refused {R : Fs → Fs → Prop} {e : Ending} {c : Int} (h : Raw w B F A N L n m tv) (h1 : n ≤ k ∧ m + A.turns.length ≤ k ∧ -(4096 * (k : Int)) ≤ A.used ∧ A.used ≤ 4096 * (k : Int)) (hc : c ≠ 0) (he : e = .returned (.int .i64 c)) : OpK B F A k R w e w :=
  ⟨c, A, he, (sto_mk h h1).mono (Nat.le_succ _), .inl ⟨hc, .inl rfl⟩, Frm.refl _ _, K5.refl _ _⟩
theorem opk_stepped {R : Fs → Fs → Prop} {e : Ending} {c : Int} {w' : World} (h0 : Raw w B F A N L n m tv) (h : Raw w' B F A.step N L n m tv) (hg : w.grownBy w' (some F)) (h1 : n ≤ k ∧ m + A.turns.length ≤ k ∧ -(4096 * (k : Int)) ≤ A.used ∧ A.used ≤ 4096 * (k : Int)) (hc : c ≠ 0) (he : e = .returned (.int .i64 c)) : OpK B F A k R w e w' :=
  ⟨c, A.step, he, (sto_mk h h1).mono (Nat.le_succ _), .inl ⟨hc, .inr rfl⟩, raw_frm h0 hg, K5.grownF h0.store hg rfl⟩
end
theorem there_endK {w w1 w2 : World} {B F N L n m k X a j : Nat} {A : Fs} {tv : Value} {s : ByteArray} {f : Fil} {news : List Value} {U : Int} (h0 : Raw w B F A N L n m tv) (h1 : n ≤ k ∧ m + A.turns.length ≤ k ∧ -(4096 * (k : Int)) ≤ A.used ∧ A.used ≤ 4096 * (k : Int)) (hc : A.code = 0) (hd : A.dir s = some X) (hf : A.file X = some f)
    (ha : a ≤ f.xs.length) (hm : a + news.length ≤ 1048576) (hn : OneB news) (hg : w.grownBy w1 (some F)) (hR : Raw w1 B F A.step N L n m tv) (hp : PutG B X f.bv f.lv a f.xs news (w1.drewN j) w2)
    (hU : U = A.used - (sz f.xs.length : Int) + (sz (max f.xs.length (a + news.length)) : Int)) : OpK B F A k (WroteR s a news) w (.returned (.int .i64 0)) (w2.setCell ⟨F, 1, none⟩ (.int .i64 U)) := by
  have hRd : Raw (w1.drewN j) B F A.step N L n m tv := hR.kept fun _ _ h => h
  obtain ⟨⟨bv, hR2⟩, hf2⟩ := hRd.put hf hp hn ha hm
  have hR3 := hR2.turned (grown_at w2 F 1 (.int .i64 U)) { ({ A.step with file := updF A.step.file X ⟨bv, f.lv, putL f.xs a news, f.ls⟩ } : Fs) with used := U } (hb_set_same hR2.store 1 _) rfl rfl rfl rfl rfl hR2.nums
  have hsm := (h0.files X f hf).small.1
  have b1 := sz_le hsm
  have b2 := sz_le (show max f.xs.length (a + news.length) ≤ 1048576 by omega)
  refine ⟨0, _, rfl, sto_mk hR3 ⟨by omega, Nat.le_succ_of_le h1.2.1, ?_, ?_⟩, .inr ⟨rfl, hc, .inl ⟨X, f, bv, hd, hf, ha, ?_⟩⟩, (((raw_frm h0 hg).trans (Frm.drewN B w1 j)).trans hf2).trans (Frm.ofGrown (grown_at w2 F 1 _) hR2.store (.inl rfl) hR2.new.1), (((K5.grownF h0.store hg rfl).trans (K5.of (A' := A.step) (w' := w1.drewN j) (fun _ _ _ h => h) rfl)).trans (K5.put (A := A.step) hf (hRd.files X f hf).block hp (hR2.files X _ (by simp [updF])).block rfl rfl)).trans (K5.grownF hR2.store (grown_at w2 F 1 _) rfl)⟩
  · show -(4096 * ((k + 1 : Nat) : Int)) ≤ U
    omega
  · show U ≤ 4096 * ((k + 1 : Nat) : Int)
    omega
  · rw [hU]
    rfl

set_option maxRecDepth 100000 in
set_option maxHeartbeats 4000000 in
theorem write_thereK {w : World} {B F N L n m k S q X : Nat} {A : Fs} {tv : Value} (h : Raw w B F A N L n m tv) (hb : n ≤ k ∧ m + A.turns.length ≤ k ∧ -(4096 * (k : Int)) ≤ A.used ∧ A.used ≤ 4096 * (k : Int)) (hk1 : k ≤ 1000) (s : ByteArray) (hs : s.size ≤ maxLen) (at_ : Int)
    (news : List Value) (fr : Nat × Nat) (hS : w.heap[S]? = some (.cells news.toArray 5 fr)) (hq : news.length = q) (hq2 : q ≤ 3000) (hone : OneB news) (hSn : ∀ X f, A.file X = some f → f.bv.ownBlock ≠ some S) (hd : A.dir s = some X) :
    Calls Try.prog 25 #[.pointer (some ⟨F, 0, none⟩), .string s, .int .i64 at_, .slice (some ⟨S, 0, none⟩) q q] w (OpK B F A k (WroteR s at_.toNat news) w) := by
  obtain ⟨f, hf⟩ := Option.isSome_iff_exists.1 (h.dirs s X hd).2
  have hk := h.files X f hf
  obtain ⟨ao, c, hbv, hlc⟩ := own_sl hk.now
  obtain ⟨bv, lv, xs, ls⟩ := f
  dsimp only at hbv hlc
  subst hbv
  have hsm : xs.length ≤ 1048576 := hk.small.1
  have hn := (h.dirs s X hd).1
  have c2 := h.cells.c2
  have H := Lib.hid h
  have HB := Lib.hid hb
  have HL := Lib.hid hs
  have HD := Lib.hid hd
  have HF := Lib.hid hf
  have HK := Lib.hid hk
  have HN := Lib.hid hn
  have HS := Lib.hid hS
  have HQ := Lib.hid hq
  have HO := Lib.hid hone
  have HSN := Lib.hid hSn
  obtain ⟨l, hl⟩ : ∃ l, l = xs.length := ⟨_, rfl⟩
  have HLN := Lib.hid hl
  have hkb : w.heap[X]? = some (.cells #[.slice ao l c, lv] 85 (0, 0)) := by rw [hl]; exact hk.block
  have HKB := Lib.hid hkb
  rw [← hl] at hlc hsm
  clear h hb hs hd hf hk hn hS hq hone hSn hl hkb
  by_cases hneg : at_ < 0
  · go_enter Try.func25, Try.ntmps25
    go_wp2_with (first
      | ((go_at_call 46; with_reducible refine (H.out.made).mono ?_); rintro e w' ⟨rfl, rfl⟩)
      | (at_lookup; refine wpList_nm_look _ rfl _ _ false rfl rfl H.out.names s rfl HL.out (some X) HD.out (.pointer (some ⟨X, 0, none⟩)) rfl ?_)
      | ((go_at_call 57; with_reducible refine (size_ok X l c ao lv _ HKB.out).mono ?_); rintro e w' ⟨rfl, rfl⟩)
      | ((go_at_call 48; with_reducible refine (isName_yes s _ HN.out).mono ?_); rintro e w' ⟨rfl, rfl⟩)
      | go_in)
    go_ret
    exact opk_refused H.out HB.out (by decide) rfl
  obtain ⟨a, rfl⟩ : ∃ a : Nat, at_ = (a : Int) := ⟨at_.toNat, by omega⟩
  rw [Int.toNat_natCast]
  clear hneg
  by_cases hpast : l < a
  · have h1 : (l : Int) < (a : Int) := by omega
    go_enter Try.func25, Try.ntmps25
    go_wp2_with (first
      | ((go_at_call 46; with_reducible refine (H.out.made).mono ?_); rintro e w' ⟨rfl, rfl⟩)
      | (at_lookup; refine wpList_nm_look _ rfl _ _ false rfl rfl H.out.names s rfl HL.out (some X) HD.out (.pointer (some ⟨X, 0, none⟩)) rfl ?_)
      | ((go_at_call 57; with_reducible refine (size_ok X l c ao lv _ HKB.out).mono ?_); rintro e w' ⟨rfl, rfl⟩)
      | ((go_at_call 48; with_reducible refine (isName_yes s _ HN.out).mono ?_); rintro e w' ⟨rfl, rfl⟩)
      | go_in)
    go_ret
    exact opk_refused H.out HB.out (by decide) rfl
  have hal : (a : Int) ≤ (l : Int) := by omega
  by_cases hbig : 1048576 < a + q
  · have h1 : 1048576 - (a : Int) < (q : Int) := by omega
    clear hpast
    go_enter Try.func25, Try.ntmps25
    go_wp2_with (first
      | ((go_at_call 46; with_reducible refine (H.out.made).mono ?_); rintro e w' ⟨rfl, rfl⟩)
      | (at_lookup; refine wpList_nm_look _ rfl _ _ false rfl rfl H.out.names s rfl HL.out (some X) HD.out (.pointer (some ⟨X, 0, none⟩)) rfl ?_)
      | ((go_at_call 57; with_reducible refine (size_ok X l c ao lv _ HKB.out).mono ?_); rintro e w' ⟨rfl, rfl⟩)
      | ((go_at_call 48; with_reducible refine (isName_yes s _ HN.out).mono ?_); rintro e w' ⟨rfl, rfl⟩)
      | go_in)
    go_ret
    exact opk_refused H.out HB.out (by decide) rfl
  have hfit : (q : Int) ≤ 1048576 - (a : Int) := by omega
  clear hbig hpast
  by_cases hc : A.code = 0
  · have HC := Lib.hid hc
    clear hc
    go_enter Try.func25, Try.ntmps25
    go_upto_region 9 with (first
      | ((go_at_call 46; with_reducible refine (H.out.made).mono ?_); rintro e w' ⟨rfl, rfl⟩)
      | (at_lookup; refine wpList_nm_look _ rfl _ _ false rfl rfl H.out.names s rfl HL.out (some X) HD.out (.pointer (some ⟨X, 0, none⟩)) rfl ?_)
      | ((go_at_call 57; with_reducible refine (size_ok X l c ao lv _ HKB.out).mono ?_); rintro e w' ⟨rfl, rfl⟩)
      | ((go_at_call 48; with_reducible refine (isName_yes s _ HN.out).mono ?_); rintro e w' ⟨rfl, rfl⟩)
      | ((go_at_call 44; with_reducible refine (step0 H.out HC.out).mono ?_); rintro e w1 ⟨rfl, hR, hg⟩)
      | go_in)
    have c1 : w1.cell? ⟨F, 1, none⟩ = some (.int .i64 A.used) := hR.cells.c1
    have c0 : w1.cell? ⟨F, 0, none⟩ = some (.int .i64 (A.cap : Nat)) := hR.cells.c0
    have c2b := hR.cells.c2
    have HG := Lib.hid hg
    have HR := Lib.hid hR
    obtain ⟨mx, hmx⟩ : ∃ mx, mx = max l (a + q) := ⟨_, rfl⟩
    have hub := HB.out.2.2
    have hmxl : mx ≤ 1048576 := by omega
    have q1 : IntKind.i64.wrap (A.used - (((l + 511) / 512 : Nat) : Int)) = A.used - (((l + 511) / 512 : Nat) : Int) := IntWalk.i64_in _ (by omega)
    have q2 : IntKind.i64.wrap ((a : Int) + (q : Int)) = (a : Int) + (q : Int) := IntWalk.i64_in _ (by omega)
    have q3 : IntKind.i64.wrap (A.used - (((l + 511) / 512 : Nat) : Int) + (((mx + 511) / 512 : Nat) : Int)) = A.used - (((l + 511) / 512 : Nat) : Int) + (((mx + 511) / 512 : Nat) : Int) := IntWalk.i64_in _ (by omega)
    have q4 : IntKind.i64.wrap (A.used - ((l : Int) + 511) / 512) = A.used - ((l : Int) + 511) / 512 := IntWalk.i64_in _ (by omega)
    have q5 : IntKind.i64.wrap (A.used - ((l : Int) + 511) / 512 + ((mx : Int) + 511) / 512) = A.used - ((l : Int) + 511) / 512 + ((mx : Int) + 511) / 512 := IntWalk.i64_in _ (by omega)
    have HMX := Lib.hid hmx
    have HUB := Lib.hid hub
    clear hg hR hmx hub c2
    go_quiet ((first | (go_at_call 53; exact quiet_eq (sectors_any l (by omega) _)) | (go_at_call 53; exact quiet_eq (sectors_max2 l a q mx (by omega) HMX.out _))))
    obtain ⟨U, hU⟩ : ∃ U : Int, U = A.used - ((l : Int) + 511) / 512 + ((mx : Int) + 511) / 512 := ⟨_, rfl⟩
    rw [← hU]
    have HU := Lib.hid hU
    clear hU q1 q2 q3 q4 q5
    by_cases hcap : (A.cap : Int) < U
    · go_wp2
      all_goals go_ret
      all_goals exact ⟨5, A.step, rfl, (sto_mk (Raw.kept (w' := w1.drewN nq) HR.out fun _ _ h => h) HB.out).mono (Nat.le_succ _), .inl ⟨by decide, .inr rfl⟩, (raw_frm H.out HG.out).trans (Frm.drewN B w1 _), (K5.grownF H.out.store HG.out rfl).trans (K5.of (fun _ _ _ h => h) rfl)⟩
    · have hcap2 : U ≤ (A.cap : Int) := by omega
      clear hcap
      have hS1 : w1.heap[S]? = some (.cells news.toArray 5 fr) := hb_grown HS.out HG.out (fun e => tag_ne HS.out H.out.store (by decide) (Option.some.inj e))
      have hput : ∀ j, Calls Try.prog 59 #[.pointer (some ⟨X, 0, none⟩), .int .i64 a, .slice (some ⟨S, 0, none⟩) q q] (w1.drewN j) fun e w' => e = .returned (.tuple #[]) ∧ PutG B X (.slice ao xs.length c) lv a xs news (w1.drewN j) w' := fun j =>
        put_all B X S a q (.slice ao xs.length c) lv xs news fr (w1.drewN j) (HR.out.files X _ HF.out).block (own_drewN (HR.out.files X _ HF.out).now j) (Nat.le_trans HR.out.new.1 (Nat.le_of_lt (hb_lt HR.out.store))) (HSN.out X _ HF.out) (by rw [← HLN.out]; exact hsm) HQ.out hq2 (by rw [← HLN.out]; omega) hS1 HO.out.cells
      have HPUT := Lib.hid hput
      have hlk : ∀ (cm : Bool) (j : Nat), (Instr.lookup 79 (.map (some N)) (.string s) cm).run Try.prog (w1.drewN j) = .ok (nmRes cm (some X)) (w1.drewN j) := fun cm j => (HR.out.names.kept (w' := w1.drewN j) fun _ h => h).look cm s HL.out (some X) HD.out
      have HLK := Lib.hid hlk
      have hnm : ∀ j, NameMap (w1.drewN j) N n A.dir := fun j => HR.out.names.kept fun _ h => h
      have HNM := Lib.hid hnm
      clear hput hS1 hlk hnm
      go_upto_region 16 with (first
        | (at_lookup; refine wpList_nm_look (o := ⟨some 75, _, _, _, _, _⟩) _ rfl _ _ true rfl rfl (HNM.out _) s rfl HL.out (some X) HD.out (.tuple #[.pointer (some ⟨X, 0, none⟩), .bool true]) rfl ?_)
        | (at_lookup; refine wpList_nm_look (o := ⟨some 91, _, _, _, _, _⟩) _ rfl _ _ false rfl rfl (HNM.out _) s rfl HL.out (some X) HD.out (.pointer (some ⟨X, 0, none⟩)) rfl ?_)
        | ((go_at_call 59; with_reducible refine (HPUT.out _).mono ?_); rintro e w2 ⟨rfl, hP⟩)
        | go_in)
      have hkf := HK.out
      have hF2 := hP.kept F _ (tag_ne (hb_drewN HR.out.store nq) (hb_drewN (HR.out.files X _ HF.out).block nq) (by decide)) (own_ne (own_drewN (HR.out.files X _ HF.out).now nq) (hb_drewN HR.out.store nq) (by simp)) (hb_drewN HR.out.store nq)
      have e1 : w2.cell? ⟨F, 1, none⟩ = some (.int .i64 A.step.used) := hb_at hF2 1 rfl
      have e2 := hb_free hF2 1
      have HP := Lib.hid hP
      clear hkf hF2 hP
      go_wp2
      all_goals go_ret
      all_goals
        refine there_endK H.out HB.out HC.out HD.out HF.out ?_ ?_ HO.out HG.out HR.out HP.out ?_
        · show a ≤ xs.length
          rw [← HLN.out]; omega
        · rw [HQ.out]; omega
        · show U = A.used - (sz xs.length : Int) + (sz (max xs.length (a + news.length)) : Int)
          rw [HU.out, HMX.out, HQ.out, ← HLN.out]
          unfold sz
          omega
  · obtain ⟨cd, hcd⟩ : ∃ cd, A.code = cd := ⟨_, rfl⟩
    rw [hcd] at hc
    have n1 : (cd == 0) = false := by simpa using hc
    have n2 : (cd != 0) = true := by simpa using hc
    have HC := Lib.hid hc
    have HCD := Lib.hid hcd
    clear hc hcd
    go_enter Try.func25, Try.ntmps25
    go_wp2_with (first
      | ((go_at_call 46; with_reducible refine (H.out.made).mono ?_); rintro e w' ⟨rfl, rfl⟩)
      | (at_lookup; refine wpList_nm_look _ rfl _ _ false rfl rfl H.out.names s rfl HL.out (some X) HD.out (.pointer (some ⟨X, 0, none⟩)) rfl ?_)
      | ((go_at_call 57; with_reducible refine (size_ok X l c ao lv _ HKB.out).mono ?_); rintro e w' ⟨rfl, rfl⟩)
      | ((go_at_call 48; with_reducible refine (isName_yes s _ HN.out).mono ?_); rintro e w' ⟨rfl, rfl⟩)
      | ((go_at_call 44; with_reducible refine (step1 H.out cd HCD.out).mono ?_); rintro e w1 ⟨rfl, hR, hg⟩)
      | go_in)
    go_ret
    exact opk_stepped H.out hR hg HB.out HC.out rfl
theorem fresh_endK {w w1 w3 w4 : World} {B F N L n m k j S : Nat} {A : Fs} {tv tv' : Value} {s : ByteArray} {news : List Value} {U : Int} (h0 : Raw w B F A N L n m tv) (h1 : n ≤ k ∧ m + A.turns.length ≤ k ∧ -(4096 * (k : Int)) ≤ A.used ∧ A.used ≤ 4096 * (k : Int)) (hc : A.code = 0) (hs : NameP s) (hd : A.dir s = none)
    (hm : news.length ≤ 3000) (hn : OneB news) (hg : w.grownBy w1 (some F)) (hR : Raw w1 B F A.step N L n m tv)
    (hR3 : Raw w3 B F { ({ A.step with file := updF A.step.file w1.heap.size emptyF } : Fs) with dir := appT A.dir ⟨0, s, ⟨#[]⟩, some w1.heap.size⟩, turns := A.turns ++ [⟨0, s, ⟨#[]⟩, some w1.heap.size⟩] } N L (n + 1) m tv') (hf3 : Frm B ((w1.drewN j).alloc (.cells #[.slice none 0 0, .slice none 0 0] 85)) w3) (hs3 : ∀ (g : Nat) (cs : Array Value) (fr : Nat × Nat), ((w1.drewN j).alloc (.cells #[.slice none 0 0, .slice none 0 0] 85)).heap[g]? = some (.cells cs 5 fr) → w3.heap[g]? = some (.cells cs 5 fr))
    (hp : PutG B w1.heap.size (.slice none 0 0) (.slice none 0 0) 0 [] news w3 w4) (hU : U = A.used + (sz news.length : Int)) : OpK B F A k (WroteR s 0 news) w (.returned (.int .i64 0)) (w4.setCell ⟨F, 1, none⟩ (.int .i64 U)) := by
  have hX : updF A.step.file w1.heap.size emptyF w1.heap.size = some emptyF := by unfold updF; rw [if_pos rfl]
  obtain ⟨⟨bv, hR4⟩, hf4⟩ := hR3.put (f := emptyF) hX hp hn (Nat.zero_le _) (by omega)
  have hR5 := hR4.turned (grown_at w4 F 1 (.int .i64 U)) { A.step with used := U, dir := appT A.dir ⟨0, s, ⟨#[]⟩, some w1.heap.size⟩, turns := A.turns ++ [⟨0, s, ⟨#[]⟩, some w1.heap.size⟩], file := updF A.step.file w1.heap.size ⟨bv, .slice none 0 0, news, []⟩ } (hb_set_same hR4.store 1 _) rfl rfl rfl (by
    show updF A.step.file w1.heap.size _ = updF (updF A.step.file w1.heap.size emptyF) w1.heap.size _
    rw [updF_twice]
    congr 1
    simp [putL, emptyF]) rfl hR4.nums
  have b1 := sz_le (show news.length ≤ 1048576 by omega)
  have hB1 : B ≤ (w1.drewN j).heap.size := Nat.le_trans hR.new.1 (Nat.le_of_lt (hb_lt hR.store))
  have k1 : K5 A A.step w w1 := K5.grownF h0.store hg rfl
  have k2 : K5 A.step A.step w1 (w1.drewN j) := K5.of (fun _ _ _ h => h) rfl
  have k3 : K5 A.step ({ ({ A.step with file := updF A.step.file w1.heap.size emptyF } : Fs) with dir := appT A.dir ⟨0, s, ⟨#[]⟩, some w1.heap.size⟩, turns := A.turns ++ [⟨0, s, ⟨#[]⟩, some w1.heap.size⟩] } : Fs) (w1.drewN j) w3 := K5.fresh (fun g cs fr h => hs3 g cs fr (hb_alloc h _)) rfl
  have k4 : K5 ({ ({ A.step with file := updF A.step.file w1.heap.size emptyF } : Fs) with dir := appT A.dir ⟨0, s, ⟨#[]⟩, some w1.heap.size⟩, turns := A.turns ++ [⟨0, s, ⟨#[]⟩, some w1.heap.size⟩] } : Fs) ({ ({ ({ A.step with file := updF A.step.file w1.heap.size emptyF } : Fs) with dir := appT A.dir ⟨0, s, ⟨#[]⟩, some w1.heap.size⟩, turns := A.turns ++ [⟨0, s, ⟨#[]⟩, some w1.heap.size⟩] } : Fs) with file := updF (updF A.step.file w1.heap.size emptyF) w1.heap.size ⟨bv, .slice none 0 0, putL [] 0 news, []⟩ } : Fs) w3 w4 := K5.put (f := emptyF) (f' := ⟨bv, .slice none 0 0, putL [] 0 news, []⟩) hX (hR3.files _ _ hX).block hp (hR4.files w1.heap.size ⟨bv, .slice none 0 0, putL [] 0 news, []⟩ (by simp [updF, emptyF])).block rfl rfl
  have k5 : K5 ({ ({ ({ A.step with file := updF A.step.file w1.heap.size emptyF } : Fs) with dir := appT A.dir ⟨0, s, ⟨#[]⟩, some w1.heap.size⟩, turns := A.turns ++ [⟨0, s, ⟨#[]⟩, some w1.heap.size⟩] } : Fs) with file := updF (updF A.step.file w1.heap.size emptyF) w1.heap.size ⟨bv, .slice none 0 0, putL [] 0 news, []⟩ } : Fs) ({ A.step with used := U, dir := appT A.dir ⟨0, s, ⟨#[]⟩, some w1.heap.size⟩, turns := A.turns ++ [⟨0, s, ⟨#[]⟩, some w1.heap.size⟩], file := updF A.step.file w1.heap.size ⟨bv, .slice none 0 0, news, []⟩ } : Fs) w4 (w4.setCell ⟨F, 1, none⟩ (.int .i64 U)) := K5.grownF hR4.store (grown_at w4 F 1 _) (by
    show updF A.step.file w1.heap.size _ = updF (updF A.step.file w1.heap.size emptyF) w1.heap.size _
    rw [updF_twice]
    congr 1
    simp [putL])
  refine ⟨0, _, rfl, sto_mk hR5 ⟨by omega, ?_, ?_, ?_⟩, .inr ⟨rfl, hc, .inr ⟨w1.heap.size, bv, hs, hd, rfl, hR.no_file, ?_⟩⟩, ((((raw_frm h0 hg).trans (Frm.drewN B w1 j)).trans (Frm.ofBelow (below1 _ _) hB1)).trans hf3).trans (hf4.trans (Frm.ofGrown (grown_at w4 F 1 _) hR4.store (.inl rfl) hR4.new.1)), (((k1.trans k2).trans k3).trans k4).trans k5⟩
  · show m + (A.turns ++ [_]).length ≤ k + 1
    rw [List.length_append]
    have := h1.2.1
    simp
    omega
  · show -(4096 * ((k + 1 : Nat) : Int)) ≤ U
    omega
  · show U ≤ 4096 * ((k + 1 : Nat) : Int)
    omega
  · rw [hU]
    rfl

set_option maxRecDepth 100000 in
set_option maxHeartbeats 4000000 in
theorem write_freshK {w : World} {B F N L n m k S q : Nat} {A : Fs} {tv : Value} (h : Raw w B F A N L n m tv) (hb : n ≤ k ∧ m + A.turns.length ≤ k ∧ -(4096 * (k : Int)) ≤ A.used ∧ A.used ≤ 4096 * (k : Int)) (hk1 : k ≤ 1000) (s : ByteArray) (hs : s.size ≤ maxLen) (at_ : Int)
    (news : List Value) (fr : Nat × Nat) (hS : w.heap[S]? = some (.cells news.toArray 5 fr)) (hq : news.length = q) (hq2 : q ≤ 3000) (hone : OneB news) (hd : A.dir s = none) :
    Calls Try.prog 25 #[.pointer (some ⟨F, 0, none⟩), .string s, .int .i64 at_, .slice (some ⟨S, 0, none⟩) q q] w (OpK B F A k (WroteR s at_.toNat news) w) := by
  have c2 := h.cells.c2
  have H := Lib.hid h
  have HB := Lib.hid hb
  have HL := Lib.hid hs
  have HD := Lib.hid hd
  have HS := Lib.hid hS
  have HQ := Lib.hid hq
  have HO := Lib.hid hone
  clear h hb hs hd hS hq hone
  by_cases hn : NameP s
  rotate_left
  · have HN := Lib.hid hn
    clear hn
    go_enter Try.func25, Try.ntmps25
    go_wp2_with (first
      | ((go_at_call 46; with_reducible refine (H.out.made).mono ?_); rintro e w' ⟨rfl, rfl⟩)
      | (at_lookup; refine wpList_nm_look _ rfl _ _ false rfl rfl H.out.names s rfl HL.out none HD.out (.pointer none) rfl ?_)
      | ((go_at_call 57; with_reducible refine (size_nil _).mono ?_); rintro e w' ⟨rfl, rfl⟩)
      | ((go_at_call 48; with_reducible refine (isName_no s _ HL.out HN.out).mono ?_); rintro e w' ⟨rfl, rfl⟩)
      | go_in)
    go_ret
    exact opk_refused H.out HB.out (by decide) rfl
  have HN := Lib.hid hn
  clear hn
  by_cases hneg : at_ < 0
  · go_enter Try.func25, Try.ntmps25
    go_wp2_with (first
      | ((go_at_call 46; with_reducible refine (H.out.made).mono ?_); rintro e w' ⟨rfl, rfl⟩)
      | (at_lookup; refine wpList_nm_look _ rfl _ _ false rfl rfl H.out.names s rfl HL.out none HD.out (.pointer none) rfl ?_)
      | ((go_at_call 57; with_reducible refine (size_nil _).mono ?_); rintro e w' ⟨rfl, rfl⟩)
      | ((go_at_call 48; with_reducible refine (isName_yes s _ HN.out).mono ?_); rintro e w' ⟨rfl, rfl⟩)
      | go_in)
    go_ret
    exact opk_refused H.out HB.out (by decide) rfl
  by_cases hpos : 0 < at_
  · go_enter Try.func25, Try.ntmps25
    go_wp2_with (first
      | ((go_at_call 46; with_reducible refine (H.out.made).mono ?_); rintro e w' ⟨rfl, rfl⟩)
      | (at_lookup; refine wpList_nm_look _ rfl _ _ false rfl rfl H.out.names s rfl HL.out none HD.out (.pointer none) rfl ?_)
      | ((go_at_call 57; with_reducible refine (size_nil _).mono ?_); rintro e w' ⟨rfl, rfl⟩)
      | ((go_at_call 48; with_reducible refine (isName_yes s _ HN.out).mono ?_); rintro e w' ⟨rfl, rfl⟩)
      | go_in)
    go_ret
    exact opk_refused H.out HB.out (by decide) rfl
  obtain rfl : at_ = 0 := by omega
  clear hneg hpos
  by_cases hc : A.code = 0
  · have HC := Lib.hid hc
    clear hc
    go_enter Try.func25, Try.ntmps25
    go_upto_region 9 with (first
      | ((go_at_call 46; with_reducible refine (H.out.made).mono ?_); rintro e w' ⟨rfl, rfl⟩)
      | (at_lookup; refine wpList_nm_look _ rfl _ _ false rfl rfl H.out.names s rfl HL.out none HD.out (.pointer none) rfl ?_)
      | ((go_at_call 57; with_reducible refine (size_nil _).mono ?_); rintro e w' ⟨rfl, rfl⟩)
      | ((go_at_call 48; with_reducible refine (isName_yes s _ HN.out).mono ?_); rintro e w' ⟨rfl, rfl⟩)
      | ((go_at_call 44; with_reducible refine (step0 H.out HC.out).mono ?_); rintro e w1 ⟨rfl, hR, hg⟩)
      | go_in)
    have c1 : w1.cell? ⟨F, 1, none⟩ = some (.int .i64 A.used) := hR.cells.c1
    have c0 : w1.cell? ⟨F, 0, none⟩ = some (.int .i64 (A.cap : Nat)) := hR.cells.c0
    have c2b := hR.cells.c2
    have HG := Lib.hid hg
    have HR := Lib.hid hR
    have hub := HB.out.2.2
    have q1 : IntKind.i64.wrap (A.used - 0) = A.used := by rw [Int.sub_zero]; exact IntWalk.i64_in _ (by omega)
    have q2 : IntKind.i64.wrap (0 + (q : Int)) = (q : Int) := by rw [Int.zero_add]; exact IntWalk.i64_in _ (by omega)
    have q3 : IntKind.i64.wrap (A.used + (((q + 511) / 512 : Nat) : Int)) = A.used + (((q + 511) / 512 : Nat) : Int) := IntWalk.i64_in _ (by omega)
    have q4 : IntKind.i64.wrap (A.used + ((q : Int) + 511) / 512) = A.used + ((q : Int) + 511) / 512 := IntWalk.i64_in _ (by omega)
    have q5 : IntKind.i64.wrap A.used = A.used := IntWalk.i64_in _ (by omega)
    have q6 : IntKind.i64.wrap (q : Int) = (q : Int) := IntWalk.i64_in _ (by omega)
    have HUB := Lib.hid hub
    clear hg hR hub c2
    go_quiet ((first | (go_at_call 53; exact quiet_eq (sectors_zero _)) | (go_at_call 53; exact quiet_eq (sectors_maxz q (by omega) _)) | (go_at_call 53; exact quiet_eq (sectors_maxn q (by omega) _)) | (go_at_call 53; exact quiet_eq (sectors_any q (by omega) _))))
    obtain ⟨U, hU⟩ : ∃ U : Int, U = A.used + ((q : Int) + 511) / 512 := ⟨_, rfl⟩
    rw [← hU]
    have HU := Lib.hid hU
    clear hU q1 q2 q3 q4 q5 q6
    by_cases hcap : (A.cap : Int) < U
    · go_wp2
      all_goals go_ret
      all_goals exact ⟨5, A.step, rfl, (sto_mk (Raw.kept (w' := w1.drewN nq) HR.out fun _ _ h => h) HB.out).mono (Nat.le_succ _), .inl ⟨by decide, .inr rfl⟩, (raw_frm H.out HG.out).trans (Frm.drewN B w1 _), (K5.grownF H.out.store HG.out rfl).trans (K5.of (fun _ _ _ h => h) rfl)⟩
    · have hcap2 : U ≤ (A.cap : Int) := by omega
      clear hcap
      have hS1 : w1.heap[S]? = some (.cells news.toArray 5 fr) := hb_grown HS.out HG.out (fun e => tag_ne HS.out H.out.store (by decide) (Option.some.inj e))
      have hRa : Raw ((w1.drewN nq).alloc (.cells #[.slice none 0 0, .slice none 0 0] 85)) B F { A.step with file := updF A.step.file w1.heap.size emptyF } N L n m tv := (Raw.kept (w' := w1.drewN nq) HR.out fun _ _ h => h).newfile
      have hdo := do_comesF hRa s HN.out w1.heap.size (by show (updF A.step.file w1.heap.size emptyF w1.heap.size).isSome = true; unfold updF; rw [if_pos rfl]; rfl) (show n < maxLen by have := HB.out.1; unfold maxLen; omega) (show A.turns.length ≤ 1000000 by have := HB.out.2.1; omega)
      have hS2 : ((w1.drewN nq).alloc (.cells #[.slice none 0 0, .slice none 0 0] 85)).heap[S]? = some (.cells news.toArray 5 fr) := hb_alloc (w := w1.drewN nq) hS1 _
      have HDO := Lib.hid hdo
      have HS2 := Lib.hid hS2
      have hnm : ∀ j, NameMap (w1.drewN j) N n A.dir := fun j => HR.out.names.kept fun _ h => h
      have HNM := Lib.hid hnm
      clear hS1 hRa hdo hS2 hnm
      go_upto_region 14 with (first
        | (at_lookup; refine wpList_nm_look (o := ⟨some 75, _, _, _, _, _⟩) _ rfl _ _ true rfl rfl (HNM.out _) s rfl HL.out none HD.out (.tuple #[.pointer none, .bool false]) rfl ?_)
        | go_in)
      go_upto_region 15 with (first
        | ((go_at_call 58; refine (HDO.out).mono ?_); rintro e w3 ⟨rfl, ⟨tv', hR3⟩, hf3, hS3⟩)
        | go_in)
      have hS3' := hS3 S _ fr HS2.out
      have hX3 := hR3.files w1.heap.size emptyF (by show updF A.step.file w1.heap.size emptyF w1.heap.size = some emptyF; unfold updF; rw [if_pos rfl])
      have hB3 : B ≤ w3.heap.size := Nat.le_trans hR3.new.1 (Nat.le_of_lt (hb_lt hR3.store))
      have hput := put_all B w1.heap.size S 0 q (.slice none 0 0) (.slice none 0 0) [] news fr w3 hX3.block (World.ownsRow_nil _ _ _ _) hB3 (by simp [Value.ownBlock]) (Nat.zero_le _) HQ.out hq2 (Nat.zero_le _) hS3' HO.out.cells
      have hnm3 : NameMap w3 N (n + 1) (appT A.dir ⟨0, s, ⟨#[]⟩, some w1.heap.size⟩) := hR3.names
      have hlk3 : appT A.dir ⟨0, s, ⟨#[]⟩, some w1.heap.size⟩ s = some w1.heap.size := by
        show upN A.dir s (some w1.heap.size) s = _
        unfold upN
        rw [if_pos rfl]
      have c23 := hR3.cells.c2
      have HPUT := Lib.hid hput
      have HNM3 := Lib.hid hnm3
      have HLK3 := Lib.hid hlk3
      have HX3 := Lib.hid hX3
      have HR3 := Lib.hid hR3
      have HF3 := Lib.hid hf3
      have HS3 := Lib.hid hS3
      clear hput hnm3 hlk3 hX3 hR3 hf3 hS3 hS3' hB3
      go_upto_region 16 with (first
        | (at_lookup; refine wpList_nm_look (o := ⟨some 91, _, _, _, _, _⟩) _ rfl _ _ false rfl rfl HNM3.out s rfl HL.out (some w1.heap.size) HLK3.out (.pointer (some ⟨w1.heap.size, 0, none⟩)) rfl ?_)
        | ((go_at_call 59; refine (HPUT.out).mono ?_); rintro e w4 ⟨rfl, hP⟩)
        | go_in)
      have hF4 := hP.kept F _ (tag_ne HR3.out.store HX3.out.block (by decide)) (by simp [Value.ownBlock]) HR3.out.store
      have e1 : w4.cell? ⟨F, 1, none⟩ = some (.int .i64 A.step.used) := hb_at hF4 1 rfl
      have e2 := hb_free hF4 1
      have HP := Lib.hid hP
      clear hF4 hP
      go_wp2
      all_goals go_ret
      all_goals
        refine fresh_endK (S := S) H.out HB.out HC.out HN.out HD.out (by rw [HQ.out]; exact hq2) HO.out HG.out HR.out HR3.out HF3.out (fun g cs fr h => HS3.out g cs fr h) HP.out ?_
        rw [HU.out, HQ.out]
        unfold sz
        omega
  · obtain ⟨cd, hcd⟩ : ∃ cd, A.code = cd := ⟨_, rfl⟩
    rw [hcd] at hc
    have n1 : (cd == 0) = false := by simpa using hc
    have n2 : (cd != 0) = true := by simpa using hc
    have HC := Lib.hid hc
    have HCD := Lib.hid hcd
    clear hc hcd
    go_enter Try.func25, Try.ntmps25
    go_wp2_with (first
      | ((go_at_call 46; with_reducible refine (H.out.made).mono ?_); rintro e w' ⟨rfl, rfl⟩)
      | (at_lookup; refine wpList_nm_look _ rfl _ _ false rfl rfl H.out.names s rfl HL.out none HD.out (.pointer none) rfl ?_)
      | ((go_at_call 57; with_reducible refine (size_nil _).mono ?_); rintro e w' ⟨rfl, rfl⟩)
      | ((go_at_call 48; with_reducible refine (isName_yes s _ HN.out).mono ?_); rintro e w' ⟨rfl, rfl⟩)
      | ((go_at_call 44; with_reducible refine (step1 H.out cd HCD.out).mono ?_); rintro e w1 ⟨rfl, hR, hg⟩)
      | go_in)
    go_ret
    exact opk_stepped H.out hR hg HB.out HC.out rfl
theorem trunc_endK {w w1 w2 : World} {B F N L n m k X i c : Nat} {A : Fs} {tv lv : Value} {ao : Option Addr} {xs ls : List Value} {s : ByteArray} (h0 : Raw w B F A N L n m tv) (h1 : n ≤ k ∧ m + A.turns.length ≤ k ∧ -(4096 * (k : Int)) ≤ A.used ∧ A.used ≤ 4096 * (k : Int)) (hc : A.code = 0) (hd : A.dir s = some X) (hf : A.file X = some ⟨.slice ao xs.length c, lv, xs, ls⟩)
    (hi : i ≤ xs.length) (hg : w.grownBy w1 (some F)) (hR : Raw w1 B F A.step N L n m tv) (hg2 : w1.grownBy w2 (some F)) (hR2 : Raw w2 B F { A.step with used := A.used + ((sz i : Int) - (sz xs.length : Int)) } N L n m tv) :
    OpK B F A k (TruncR s i) w (.returned (.int .i64 0)) (w2.setCell ⟨X, 0, none⟩ (.slice ao i c)) := by
  have hk := hR2.files X _ hf
  have hsm : xs.length ≤ 1048576 := hk.small.1
  have hset := hb_set_same hk.block 0 (.slice ao i c)
  have other : ∀ (b : Nat) (x : Obj), b ≠ X → w2.heap[b]? = some x → (w2.setCell ⟨X, 0, none⟩ (.slice ao i c)).heap[b]? = some x := fun b x hb hx => hb_set_other hx _ hb
  have hnow := own_take hk.now hi
  have hlen : (xs.take i).length = i := by rw [List.length_take]; omega
  have hfin : Raw (w2.setCell ⟨X, 0, none⟩ (.slice ao i c)) B F { ({ A.step with used := A.used + ((sz i : Int) - (sz xs.length : Int)) } : Fs) with file := updF A.file X ⟨.slice ao i c, lv, xs.take i, ls⟩ } N L n m tv := by
    refine Raw.refile hR2 hf ⟨hk.new, hset, ?_, own_kept hk.lasts fun g x hgv hx => other g x (fun e => own_ne hk.lasts hk.block (by simp) (by rw [hgv, e])) hx, ⟨by rw [hlen]; omega, hk.small.2⟩, ⟨fun u hu => hk.bytes.1 u (List.mem_of_mem_take hu), hk.bytes.2⟩⟩ (fun b x hb _ hx => other b x hb hx) (.inl ?_) (.inl rfl) ?_
    · show World.ownsRow _ _ _ _ (.slice ao i c) (xs.take i).length (xs.take i)
      rw [hlen]
      exact own_kept hnow fun g x hgv hx => other g x (fun e => own_ne hnow hk.block (by simp) (by rw [hgv, e])) hx
    · cases ao <;> rfl
    · have := (hR2.lone X X _ _ hf hf).2
      cases ao with
      | none => simp [Value.ownBlock]
      | some a => exact this
  have b1 := sz_le hsm
  have b2 := sz_le (Nat.le_trans hi hsm)
  refine ⟨0, _, rfl, sto_mk hfin ⟨by omega, by have := h1.2.1; exact Nat.le_succ_of_le this, ?_, ?_⟩, .inr ⟨rfl, hc, X, _, .slice ao i c, hd, hf, hi, rfl⟩, ?_, ((K5.grownF h0.store hg rfl).trans (K5.grownF hR.store hg2 rfl)).trans (K5.cut (A := { A.step with used := A.used + ((sz i : Int) - (sz xs.length : Int)) }) hf hk.block rfl rfl)⟩
  · show -(4096 * ((k + 1 : Nat) : Int)) ≤ A.used + ((sz i : Int) - (sz xs.length : Int))
    omega
  · show A.used + ((sz i : Int) - (sz xs.length : Int)) ≤ 4096 * ((k + 1 : Nat) : Int)
    omega
  · exact ((raw_frm h0 hg).trans (raw_frm hR hg2)).trans (Frm.ofGrown (grown_at w2 X 0 _) hk.block (.inr (.inl rfl)) hk.new)

set_option maxRecDepth 100000 in
set_option maxHeartbeats 4000000 in
theorem trunc_anyK {w : World} {B F N L n m k : Nat} {A : Fs} {tv : Value} (h : Raw w B F A N L n m tv) (hb : n ≤ k ∧ m + A.turns.length ≤ k ∧ -(4096 * (k : Int)) ≤ A.used ∧ A.used ≤ 4096 * (k : Int)) (hk1 : k ≤ 1000) (s : ByteArray) (hs : s.size ≤ maxLen) (j : Int) :
    Calls Try.prog 27 #[.pointer (some ⟨F, 0, none⟩), .string s, .int .i64 j] w (OpK B F A k (TruncR s j.toNat) w) := by
  have H := Lib.hid h
  have HB := Lib.hid hb
  have HL := Lib.hid hs
  clear h hb hs
  by_cases hj : j < 0
  · go_enter Try.func27, Try.ntmps27
    go_wp2_with (first
      | ((go_at_call 46; with_reducible refine (H.out.made).mono ?_); rintro e w' ⟨rfl, rfl⟩)
      | go_in)
    go_ret
    exact opk_refused H.out HB.out (by decide) rfl
  obtain ⟨i, rfl⟩ : ∃ i : Nat, j = (i : Int) := ⟨j.toNat, by omega⟩
  rw [Int.toNat_natCast]
  clear hj
  by_cases hn : NameP s
  · cases hd : A.dir s with
    | none =>
      have HS := Lib.hid hn
      have HD := Lib.hid hd
      clear hn hd
      go_enter Try.func27, Try.ntmps27
      go_wp2_with (first
        | ((go_at_call 46; with_reducible refine (H.out.made).mono ?_); rintro e w' ⟨rfl, rfl⟩)
        | ((go_at_call 43; with_reducible refine (find_no H.out s HS.out HD.out).mono ?_); rintro e w' ⟨rfl, rfl⟩)
        | go_in)
      go_ret
      exact opk_refused H.out HB.out (by decide) rfl
    | some X =>
      obtain ⟨f, hf⟩ := Option.isSome_iff_exists.1 (H.out.dirs s X hd).2
      have hk := H.out.files X f hf
      obtain ⟨ao, c, hbv, hlc⟩ := own_sl hk.now
      obtain ⟨bv, lv, xs, ls⟩ := f
      dsimp only at hbv hlc
      subst hbv
      have hsm := hk.small.1
      dsimp only at hsm
      have HD := Lib.hid hd
      have HF := Lib.hid hf
      have HK := Lib.hid hk
      have c2 := H.out.cells.c2
      clear hn hd hf hk
      by_cases hi : xs.length < i
      · have hi2 : (xs.length : Int) < (i : Int) := by omega
        go_enter Try.func27, Try.ntmps27
        go_wp2_with (first
          | ((go_at_call 46; with_reducible refine (H.out.made).mono ?_); rintro e w' ⟨rfl, rfl⟩)
          | ((go_at_call 43; with_reducible refine (find_yes H.out s X HD.out).mono ?_); rintro e w' ⟨rfl, rfl⟩)
          | (at_lookup; refine wpList_nm_look _ rfl _ _ false rfl rfl H.out.names s rfl HL.out (some X) HD.out (.pointer (some ⟨X, 0, none⟩)) rfl ?_)
          | ((go_at_call 57; with_reducible refine (size_ok X xs.length c ao lv _ HK.out.block).mono ?_); rintro e w' ⟨rfl, rfl⟩)
          | go_in)
        go_ret
        exact opk_refused H.out HB.out (by decide) rfl
      · have hi2 : (i : Int) ≤ (xs.length : Int) := by omega
        by_cases hc : A.code = 0
        · have HC := Lib.hid hc
          clear hc
          go_enter Try.func27, Try.ntmps27
          go_upto_region 14 with (first
            | ((go_at_call 46; with_reducible refine (H.out.made).mono ?_); rintro e w' ⟨rfl, rfl⟩)
            | ((go_at_call 43; with_reducible refine (find_yes H.out s X HD.out).mono ?_); rintro e w' ⟨rfl, rfl⟩)
            | (at_lookup; refine wpList_nm_look _ rfl _ _ false rfl rfl H.out.names s rfl HL.out (some X) HD.out (.pointer (some ⟨X, 0, none⟩)) rfl ?_)
            | ((go_at_call 57; with_reducible refine (size_ok X xs.length c ao lv _ HK.out.block).mono ?_); rintro e w' ⟨rfl, rfl⟩)
            | ((go_at_call 44; with_reducible refine (step0 H.out HC.out).mono ?_); rintro e w1 ⟨rfl, hR, hg⟩)
            | go_in)
          have hk1 := hR.files X _ HF.out
          have c1 : w1.cell? ⟨F, 1, none⟩ = some (.int .i64 A.used) := hR.cells.c1
          have f1 := hb_free hR.store 1
          have hz1 : ((i + 511) / 512 : Nat) ≤ 2048 := by omega
          have hz2 : ((xs.length + 511) / 512 : Nat) ≤ 2048 := by omega
          have hub := HB.out.2.2
          have qv : IntKind.i64.wrap (A.used + IntKind.i64.wrap (((i : Int) + 511) / 512 - ((xs.length : Int) + 511) / 512)) = A.used + ((sz i : Int) - (sz xs.length : Int)) := by
            rw [IntWalk.i64_in (((i : Int) + 511) / 512 - ((xs.length : Int) + 511) / 512) (by omega), IntWalk.i64_in _ (by omega)]
            unfold sz
            omega
          have QV := Lib.hid qv
          clear qv
          have HG := Lib.hid hg
          have HR := Lib.hid hR
          have HK1 := Lib.hid hk1
          have HI := Lib.hid hi
          have HSM := Lib.hid hsm
          clear hg hR hk1 hi hz1 hz2 hub
          have hkd : w1.drew.heap[X]? = some (.cells #[.slice ao xs.length c, lv] 85 (0, 0)) := HK1.out.block
          have HKD := Lib.hid hkd
          clear hkd
          go_cut [46] (fun _ wx => Raw wx B F { A.step with used := A.used + ((sz i : Int) - (sz xs.length : Int)) } N L n m tv ∧ w1.grownBy wx (some F))
          case first =>
            go_region_with (first
              | ((go_at_call 57; with_reducible refine (size_ok X xs.length c ao lv _ HKD.out).mono ?_); rintro e w' ⟨rfl, rfl⟩)
              | ((go_at_call 53; with_reducible refine (sectors_any _ (by have := HI.out; have := HSM.out; omega) _).mono ?_); rintro e w' ⟨rfl, rfl⟩))
            all_goals
              go_wp2_with fail
              go_meet
              exact used_turned HR.out _ _ QV.out
          case rest =>
            obtain ⟨hR2, hg2⟩ := hcut
            have hk2 := (hR2.files X _ HF.out).block
            have x0 : wc.cell? ⟨X, 0, none⟩ = some (.slice ao xs.length c) := hb_at hk2 0 rfl
            have y0 := hb_free hk2 0
            have HR2 := Lib.hid hR2
            have HG2 := Lib.hid hg2
            clear hR2 hg2 hk2 c1 f1
            have i0 : (0 : Int) ≤ (i : Int) := by omega
            have i1 : (i : Int) ≤ (c : Int) := by have := HI.out; omega
            go_wp2
            go_ret
            exact trunc_endK H.out HB.out HC.out HD.out HF.out (by have := HI.out; omega) HG.out HR.out HG2.out HR2.out
        · obtain ⟨cd, hcd⟩ : ∃ cd, A.code = cd := ⟨_, rfl⟩
          rw [hcd] at hc
          have n1 : (cd == 0) = false := by simpa using hc
          have n2 : (cd != 0) = true := by simpa using hc
          have HC := Lib.hid hc
          have HCD := Lib.hid hcd
          clear hc hcd
          go_enter Try.func27, Try.ntmps27
          go_wp2_with (first
            | ((go_at_call 46; with_reducible refine (H.out.made).mono ?_); rintro e w' ⟨rfl, rfl⟩)
            | ((go_at_call 43; with_reducible refine (find_yes H.out s X HD.out).mono ?_); rintro e w' ⟨rfl, rfl⟩)
            | (at_lookup; refine wpList_nm_look _ rfl _ _ false rfl rfl H.out.names s rfl HL.out (some X) HD.out (.pointer (some ⟨X, 0, none⟩)) rfl ?_)
            | ((go_at_call 57; with_reducible refine (size_ok X xs.length c ao lv _ HK.out.block).mono ?_); rintro e w' ⟨rfl, rfl⟩)
            | ((go_at_call 44; with_reducible refine (step1 H.out cd HCD.out).mono ?_); rintro e w1 ⟨rfl, hR, hg⟩)
            | go_in)
          go_ret
          exact opk_stepped H.out hR hg HB.out HC.out rfl
  · have HS := Lib.hid hn
    clear hn
    go_enter Try.func27, Try.ntmps27
    go_wp2_with (first
      | ((go_at_call 46; with_reducible refine (H.out.made).mono ?_); rintro e w' ⟨rfl, rfl⟩)
      | ((go_at_call 43; with_reducible refine (find_bad H.out s HL.out HS.out).mono ?_); rintro e w' ⟨rfl, rfl⟩)
      | go_in)
    go_ret
    exact opk_refused H.out HB.out (by decide) rfl
end Go.Proofs.Ytmfphnhdahaooaa
