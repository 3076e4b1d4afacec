/- The texts Gg, Gh, Gi, Gj, Gk, Gl, Hf, one behind the other. -/
import Derived.Test.YtmfphnhdahaooaaM11
import Derived.Test.YtmfphnhdahaooaaM07
set_option linter.unusedSimpArgs false
set_option linter.unusedVariables false
/- Looks at any store: find, Used, Off, Fail, Power, clones of bytes, Read. -/
namespace Go.Proofs.Ytmfphnhdahaooaa
open Go.RowKit Go.Maps

structure Cells (w : World) (F N L : Nat) (A : Fs) (tv : Value) : Prop where
  c0 : w.cell? ⟨F, 0, none⟩ = some (.int .i64 (A.cap : Nat))
  c1 : w.cell? ⟨F, 1, none⟩ = some (.int .i64 A.used)
  c2 : w.cell? ⟨F, 2, none⟩ = some (.map (some N))
  c3 : w.cell? ⟨F, 3, none⟩ = some (.map (some L))
  c4 : w.cell? ⟨F, 4, none⟩ = some tv
  c7 : w.cell? ⟨F, 7, none⟩ = some (.bool A.off)
section
variable {w : World} {B F N L n m : Nat} {A : Fs} {tv : Value}
theorem Raw.cells (h : Raw w B F A N L n m tv) : Cells w F N L A tv := ⟨hb_at h.store 0 rfl, hb_at h.store 1 rfl, hb_at h.store 2 rfl, hb_at h.store 3 rfl, hb_at h.store 4 rfl, hb_at h.store 7 rfl⟩
theorem Raw.made (h : Raw w B F A N L n m tv) : Calls Try.prog 46 #[.pointer (some ⟨F, 0, none⟩)] w fun e w' => e = .returned (.bool true) ∧ w = w' := made_yes F A.cap h.caps.1 w h.cells.c0

theorem find_bad (h : Raw w B F A N L n m tv) (s : ByteArray) (hs : s.size ≤ maxLen) (hn : ¬ NameP s) : Calls Try.prog 43 #[.pointer (some ⟨F, 0, none⟩), .string s] w fun e w' => e = .returned (.int .i64 2) ∧ w = w' := by
  have H := Lib.hid h
  have HS := Lib.hid hn
  have HL := Lib.hid hs
  clear h hn hs
  go_enter Try.func43, Try.ntmps43
  go_wp2_with (first
    | ((go_at_call 46; with_reducible refine (H.out.made).mono ?_); rintro e w' ⟨rfl, rfl⟩)
    | ((go_at_call 48; with_reducible refine (isName_no s _ HL.out HS.out).mono ?_); rintro e w' ⟨rfl, rfl⟩)
    | go_in)
  go_ret
  exact ⟨rfl, rfl⟩
theorem find_look (h : Raw w B F A N L n m tv) (s : ByteArray) (hn : NameP s) (r : Option Nat) (hr : A.dir s = r) : Calls Try.prog 43 #[.pointer (some ⟨F, 0, none⟩), .string s] w fun e w' => e = .returned (.int .i64 (if r.isSome = true then 0 else 3)) ∧ w = w' := by
  have c2 := h.cells.c2
  have H := Lib.hid h
  have HS := Lib.hid hn
  have HR := Lib.hid hr
  clear h hn hr
  cases r with
  | none =>
    go_enter Try.func43, Try.ntmps43
    go_wp2_with (first
      | ((go_at_call 46; with_reducible refine (H.out.made).mono ?_); rintro e w' ⟨rfl, rfl⟩)
      | ((go_at_call 48; with_reducible refine (isName_yes s _ HS.out).mono ?_); rintro e w' ⟨rfl, rfl⟩)
      | (at_lookup; refine wpList_nm_look _ rfl _ _ true rfl rfl H.out.names s rfl HS.out.small none HR.out (.tuple #[.pointer none, .bool false]) rfl ?_)
      | go_in)
    go_ret
    exact ⟨rfl, rfl⟩
  | some X =>
    go_enter Try.func43, Try.ntmps43
    go_wp2_with (first
      | ((go_at_call 46; with_reducible refine (H.out.made).mono ?_); rintro e w' ⟨rfl, rfl⟩)
      | ((go_at_call 48; with_reducible refine (isName_yes s _ HS.out).mono ?_); rintro e w' ⟨rfl, rfl⟩)
      | (at_lookup; refine wpList_nm_look _ rfl _ _ true rfl rfl H.out.names s rfl HS.out.small (some X) HR.out (.tuple #[.pointer (some ⟨X, 0, none⟩), .bool true]) rfl ?_)
      | go_in)
    go_ret
    exact ⟨rfl, rfl⟩

theorem used_any (h : Raw w B F A N L n m tv) : Calls Try.prog 24 #[.pointer (some ⟨F, 0, none⟩)] w fun e w' => e = .returned (.int .i64 A.used) ∧ w = w' := by
  have c1 := h.cells.c1
  have H := Lib.hid h
  clear h
  go_enter Try.func24, Try.ntmps24
  go_wp2_with (first
    | ((go_at_call 46; with_reducible refine (H.out.made).mono ?_); rintro e w' ⟨rfl, rfl⟩)
    | go_in)
  go_ret
  exact ⟨rfl, rfl⟩
theorem off_any (h : Raw w B F A N L n m tv) : Calls Try.prog 21 #[.pointer (some ⟨F, 0, none⟩)] w fun e w' => e = .returned (.bool A.off) ∧ w = w' := by
  have c7 := h.cells.c7
  have H := Lib.hid h
  clear h
  go_enter Try.func21, Try.ntmps21
  go_wp2_with (first
    | ((go_at_call 46; with_reducible refine (H.out.made).mono ?_); rintro e w' ⟨rfl, rfl⟩)
    | go_in)
  go_ret
  exact ⟨rfl, rfl⟩
theorem fail_any (h : Raw w B F A N L n m tv) (i : Int) (hi : i ≤ 9223372036854775807) : Calls Try.prog 30 #[.pointer (some ⟨F, 0, none⟩), .int .i64 i] w fun e w' => e = .returned (.tuple #[]) ∧ Raw w' B F { A with fail := i } N L n m tv ∧ w.grownBy w' (some F) := by
  have f5 := hb_free h.store 5
  have c5 : w.cell? ⟨F, 5, none⟩ = some (.int .i64 A.fail) := hb_at h.store 5 rfl
  have H := Lib.hid h
  clear h
  go_enter Try.func30, Try.ntmps30
  go_wp2_with (first
    | ((go_at_call 46; with_reducible refine (H.out.made).mono ?_); rintro e w' ⟨rfl, rfl⟩)
    | go_in)
  go_end0
  exact ⟨rfl, H.out.turned (grown_at w F 5 _) { A with fail := i } (hb_set_same H.out.store 5 _) rfl rfl rfl rfl rfl ⟨hi, H.out.nums.2⟩, grown_at w F 5 _⟩
theorem power_any (h : Raw w B F A N L n m tv) (i : Int) (hi : i ≤ 9223372036854775807) : Calls Try.prog 31 #[.pointer (some ⟨F, 0, none⟩), .int .i64 i] w fun e w' => e = .returned (.tuple #[]) ∧ Raw w' B F { A with pow := i } N L n m tv ∧ w.grownBy w' (some F) := by
  have f6 := hb_free h.store 6
  have c6 : w.cell? ⟨F, 6, none⟩ = some (.int .i64 A.pow) := hb_at h.store 6 rfl
  have H := Lib.hid h
  clear h
  go_enter Try.func31, Try.ntmps31
  go_wp2_with (first
    | ((go_at_call 46; with_reducible refine (H.out.made).mono ?_); rintro e w' ⟨rfl, rfl⟩)
    | go_in)
  go_end0
  exact ⟨rfl, H.out.turned (grown_at w F 6 _) { A with pow := i } (hb_set_same H.out.store 6 _) rfl rfl rfl rfl rfl ⟨H.out.nums.1, hi⟩, grown_at w F 6 _⟩
end

theorem own_new0 (w : World) : (w.alloc (.cells #[] 5)).ownsRow w.heap.size 5 1 (.slice (some ⟨w.heap.size, 0, none⟩) 0 0) 0 [] := World.ownsRow_made w #[] 0 (Nat.le_refl _) (by decide) rfl

set_option maxRecDepth 100000 in
set_option maxHeartbeats 1000000 in
theorem bclone_any (v : Value) (xs : List Value) (w : World) (hg : w.ownsRow 0 5 1 v xs.length xs) (hn : xs.length ≤ 1048576) (hone : ∀ u ∈ xs, u.oneCell' = true) :
    Calls Try.prog 45 #[v] w fun e w' => ∃ v', e = .returned v' ∧ NewRow v' xs.length xs w w' := by
  rcases hg.2 with ⟨rfl, h0⟩ | ⟨g, cap, cur, rfl, _⟩
  · obtain rfl := List.eq_nil_of_length_eq_zero h0
    refine (bclone_nil w).mono ?_
    rintro e w' ⟨rfl, rfl⟩
    exact ⟨_, rfl, World.ownsRow_nil _ _ _ _, Below.refl _ _⟩
  · obtain ⟨i0, hi, hz0, hz1, hz2⟩ := info_parts info5
    rcases Nat.eq_zero_or_pos xs.length with h0 | hm
    · obtain rfl := List.eq_nil_of_length_eq_zero h0
      have hq := fun w => Lib.run_eql_slice_nil (P := Try.prog) w 45 5 (some ⟨g, 0, none⟩) 0 cap 0 0 Try.underlying45
      have hap := fun w => run_append_zero (P := Try.prog) (w := w) 45 45 5 i0 Try.underlying45 hi (some ⟨w.heap.size, 0, none⟩) 0 0 (Nat.le_refl _) ⟨g, 0, none⟩ cap
      clear hg hi hz0 hz1 hz2
      go_enter Try.func45, Try.ntmps45
      go_wp2
      go_ret
      exact ⟨_, rfl, own_new0 w, below1 w _⟩
    · have Hg := Lib.hid hg
      have Ho := Lib.hid hone
      clear hg hone
      obtain ⟨nn, hnn⟩ : ∃ nn, nn = xs.length := ⟨_, rfl⟩
      rw [← hnn] at Hg hm hn ⊢
      have HNN := Lib.hid hnn
      clear hnn
      have hq := fun w => Lib.run_eql_slice_nil (P := Try.prog) w 45 5 (some ⟨g, 0, none⟩) nn cap 0 0 Try.underlying45
      go_enter Try.func45, Try.ntmps45
      go_wp2_with (first
        | (at_builtin; refine wpList_append_lies _ rfl _ _ 45 rfl w.heap.size 5 i0 _ 1 1 Try.underlying45 hi hz0 hz1 hz2 rfl (by decide) _ 0 [] rfl (World.ownsRow_made w #[] 0 (Nat.le_refl _) (by decide) rfl) ⟨g, 0, none⟩ nn cap xs rfl (by rw [Hg.out.1]) ((Hg.out.alloc _).cells rfl) Ho.out hm (by unfold maxLen; omega) (by omega) (by simp) _ rfl ?_; intro g2 cap2 w2 hown2 hg2 hat2 hlt2)
        | go_in)
      go_ret
      simp only [Nat.zero_add, List.nil_append] at hown2
      exact ⟨.slice (some ⟨g2, 0, none⟩) nn cap2, by rw [← Nat.zero_add nn]; rfl, hown2, below_grown (below1 _ _) hg2 (by simp) (Nat.le_refl _)⟩
end Go.Proofs.Ytmfphnhdahaooaa
/- Read and Fsync of any store. -/
namespace Go.Proofs.Ytmfphnhdahaooaa
open Go.RowKit Go.Maps

def updF (g : Nat → Option Fil) (X : Nat) (f : Fil) : Nat → Option Fil := fun Y => if Y = X then some f else g Y
theorem updF_some {g : Nat → Option Fil} {X Y : Nat} {f : Fil} (h : (g Y).isSome = true) : (updF g X f Y).isSome = true := by
  unfold updF
  split <;> simp [h]

theorem own_lt {w : World} {B : Nat} {e : TypeId} {size n g : Nat} {v : Value} {xs : List Value} (h : w.ownsRow B e size v n xs) (hg : v.ownBlock = some g) : g < w.heap.size := (h.lt g hg).2

def Fresh (A : Fs) (v : Value) : Prop := ∀ Y h, A.file Y = some h → v.ownBlock ≠ none → h.bv.ownBlock ≠ v.ownBlock ∧ h.lv.ownBlock ≠ v.ownBlock
theorem fresh_new {w : World} {B F N L n m : Nat} {A : Fs} {tv v : Value} (h : Raw w B F A N L n m tv) (hv : ∀ g, v.ownBlock = some g → w.heap.size ≤ g) : Fresh A v := by
  intro Y f hY hn
  obtain ⟨g, hg⟩ := Option.ne_none_iff_exists'.1 hn
  have hk := h.files Y f hY
  have h1 := hv g hg
  refine ⟨fun e => ?_, fun e => ?_⟩
  · have := own_lt hk.now (e.trans hg); omega
  · have := own_lt hk.lasts (e.trans hg); omega

/-- A file has another block of bytes, or more, or lasts otherwise; nothing else is turned. -/
theorem Raw.refile {w w' : World} {B F N L n m X : Nat} {A : Fs} {tv : Value} {f f' : Fil} (h : Raw w B F A N L n m tv) (hX : A.file X = some f) (hk' : FilOk w' B X f')
    (hk : ∀ (b : Nat) (x : Obj), b ≠ X → some b ≠ f.bv.ownBlock → w.heap[b]? = some x → w'.heap[b]? = some x)
    (h1 : f'.bv.ownBlock = f.bv.ownBlock ∨ Fresh A f'.bv) (h2 : f'.lv.ownBlock = f.lv.ownBlock ∨ Fresh A f'.lv)
    (h3 : f'.bv.ownBlock ≠ none → f'.bv.ownBlock ≠ f'.lv.ownBlock) : Raw w' B F { A with file := updF A.file X f' } N L n m tv := by
  have hf := h.files X f hX
  obtain ⟨es, ck, hN⟩ := h.names.heap
  obtain ⟨ls, cl, hL⟩ := h.lasts.heap
  have o5 : ∀ (b : Nat) (x : Obj), (∀ cs f, x ≠ .cells cs 85 f) → (∀ cs f, x ≠ .cells cs 5 f) → w.heap[b]? = some x → w'.heap[b]? = some x := fun b x h85 h5 hx =>
    hk b x (fun e => by rw [e, hf.block] at hx; exact h85 _ _ (Option.some.inj hx).symm) (own_ne hf.now hx h5) hx
  refine ⟨o5 _ _ (by simp) (by simp) h.store, h.names.kept fun x hx => ?_, h.lasts.kept fun x hx => ?_, h.two, ?_, h.new, ?_, ?_, ?_, ?_, ?_, h.caps, h.nums⟩
  · rw [hN] at hx; obtain rfl := Option.some.inj hx; exact o5 _ _ (by simp) (by simp) hN
  · rw [hL] at hx; obtain rfl := Option.some.inj hx; exact o5 _ _ (by simp) (by simp) hL
  · refine own_kept h.row fun g x hg hx => ?_
    rcases h.row.2 with ⟨e, _⟩ | ⟨g2, cap, cur, e, _, hb, _⟩
    · rw [e] at hg; cases hg
    · rw [e] at hg
      obtain rfl : g2 = g := by simpa [Value.ownBlock] using hg
      rw [hb] at hx
      obtain rfl := Option.some.inj hx
      exact o5 _ _ (by simp) (by simp) hb
  · intro Y g hY
    unfold updF at hY
    dsimp only at hY
    by_cases e : Y = X
    · rw [if_pos e] at hY
      obtain rfl := Option.some.inj hY
      rw [e]
      exact hk'
    · rw [if_neg e] at hY
      have hg := h.files Y g hY
      have hl := h.lone X Y f g hX hY
      refine hg.kept (fun x hx => ?_) (fun b x hb hx => ?_) (fun b x hb hx => ?_)
      · exact hk Y x e (own_ne hf.now hg.block (by simp)) hx
      · refine hk b x (fun e2 => own_ne hg.now hf.block (by simp) (by rw [hb, e2])) (fun e2 => ?_) hx
        exact hl.1 (Ne.symm e) (by rw [← e2]; simp) (by rw [← e2, hb])
      · refine hk b x (fun e2 => own_ne hg.lasts hf.block (by simp) (by rw [hb, e2])) (fun e2 => ?_) hx
        exact hl.2 (by rw [← e2]; simp) (by rw [← e2, hb])
  · intro Y Z g g' hY hZ
    unfold updF at hY hZ
    dsimp only at hY hZ
    by_cases eY : Y = X
    · rw [if_pos eY] at hY
      obtain rfl := Option.some.inj hY
      by_cases eZ : Z = X
      · rw [if_pos eZ] at hZ
        obtain rfl := Option.some.inj hZ
        exact ⟨fun e => absurd (eY.trans eZ.symm) e, h3⟩
      · rw [if_neg eZ] at hZ
        have hl := h.lone X Z f g' hX hZ
        have hg := h.files Z g' hZ
        refine ⟨fun _ hn e => ?_, fun hn e => ?_⟩
        · rcases h1 with h1 | h1
          · exact hl.1 (Ne.symm eZ) (by rw [← h1]; exact hn) (by rw [← h1]; exact e)
          · exact (h1 Z g' hZ hn).1 e.symm
        · rcases h1 with h1 | h1
          · exact hl.2 (by rw [← h1]; exact hn) (by rw [← h1]; exact e)
          · exact (h1 Z g' hZ hn).2 e.symm
    · rw [if_neg eY] at hY
      by_cases eZ : Z = X
      · rw [if_pos eZ] at hZ
        obtain rfl := Option.some.inj hZ
        have hl := h.lone Y X g f hY hX
        have hg := h.files Y g hY
        refine ⟨fun _ hn e => ?_, fun hn e => ?_⟩
        · rcases h1 with h1 | h1
          · exact hl.1 eY hn (by rw [← h1]; exact e)
          · exact (h1 Y g hY (by rw [← e]; exact hn)).1 e
        · rcases h2 with h2 | h2
          · exact hl.2 hn (by rw [← h2]; exact e)
          · exact (h2 Y g hY (by rw [← e]; exact hn)).1 e
      · rw [if_neg eZ] at hZ
        exact h.lone Y Z g g' hY hZ
  · exact fun s Y hs => ⟨(h.dirs s Y hs).1, updF_some (h.dirs s Y hs).2⟩
  · exact fun s Y hs => ⟨(h.lastd s Y hs).1, updF_some (h.lastd s Y hs).2⟩
  · exact fun t ht => ⟨(h.turn t ht).1, (h.turn t ht).2.1, (h.turn t ht).2.2.1, fun Y hY => updF_some ((h.turn t ht).2.2.2 Y hY)⟩

/-- What Read answers. -/
def ReadP (A : Fs) (s : ByteArray) (w : World) (e : Ending) (w' : World) : Prop :=
  (∃ c : Int, c ≠ 0 ∧ e = .returned (.tuple #[.slice none 0 0, .int .i64 c]) ∧ w = w' ∧ (NameP s → A.off = false → A.dir s = none)) ∨
  (∃ (v : Value) (X : Nat) (f : Fil), NameP s ∧ A.off = false ∧ A.dir s = some X ∧ A.file X = some f ∧ e = .returned (.tuple #[v, .int .i64 0]) ∧ NewRow v f.xs.length f.xs w w')

set_option maxRecDepth 100000 in
set_option maxHeartbeats 1000000 in
theorem read_any {w : World} {B F N L n m : Nat} {A : Fs} {tv : Value} (h : Raw w B F A N L n m tv) (s : ByteArray) (hs : s.size ≤ maxLen) :
    Calls Try.prog 19 #[.pointer (some ⟨F, 0, none⟩), .string s] w (ReadP A s w) := by
  have c2 := h.cells.c2
  have c7 := h.cells.c7
  by_cases hn : NameP s
  · by_cases hoff : A.off = true
    · rw [hoff] at c7
      have H := Lib.hid h
      have HS := Lib.hid hn
      have HO := Lib.hid hoff
      clear h hn hoff
      go_enter Try.func19, Try.ntmps19
      go_wp2_with (first
        | ((go_at_call 46; with_reducible refine (H.out.made).mono ?_); rintro e w' ⟨rfl, rfl⟩)
        | ((go_at_call 48; with_reducible refine (isName_yes s _ HS.out).mono ?_); rintro e w' ⟨rfl, rfl⟩)
        | go_in)
      go_ret2
      exact .inl ⟨7, by decide, rfl, rfl, fun _ h => by rw [HO.out] at h; cases h⟩
    · have hoff : A.off = false := by simpa using hoff
      rw [hoff] at c7
      cases hd : A.dir s with
      | none =>
        have H := Lib.hid h
        have HS := Lib.hid hn
        have HD := Lib.hid hd
        clear h hn hoff hd
        go_enter Try.func19, Try.ntmps19
        go_wp2_with (first
          | ((go_at_call 46; with_reducible refine (H.out.made).mono ?_); rintro e w' ⟨rfl, rfl⟩)
          | ((go_at_call 48; with_reducible refine (isName_yes s _ HS.out).mono ?_); rintro e w' ⟨rfl, rfl⟩)
          | (at_lookup; refine wpList_nm_look _ rfl _ _ true rfl rfl H.out.names s rfl HS.out.small none HD.out (.tuple #[.pointer none, .bool false]) rfl ?_)
          | go_in)
        go_ret2
        exact .inl ⟨3, by decide, rfl, rfl, fun _ _ => HD.out⟩
      | some X =>
        obtain ⟨f, hf⟩ := Option.isSome_iff_exists.1 (h.dirs s X hd).2
        have hk := h.files X f hf
        have x0 : w.cell? ⟨X, 0, none⟩ = some f.bv := hb_at hk.block 0 rfl
        have H := Lib.hid h
        have HS := Lib.hid hn
        have HD := Lib.hid hd
        have HO := Lib.hid hoff
        have HF := Lib.hid hf
        have HK := Lib.hid hk
        clear h hn hoff hd hf hk
        go_enter Try.func19, Try.ntmps19
        go_wp2_with (first
          | ((go_at_call 46; with_reducible refine (H.out.made).mono ?_); rintro e w' ⟨rfl, rfl⟩)
          | ((go_at_call 48; with_reducible refine (isName_yes s _ HS.out).mono ?_); rintro e w' ⟨rfl, rfl⟩)
          | (at_lookup; refine wpList_nm_look _ rfl _ _ true rfl rfl H.out.names s rfl HS.out.small (some X) HD.out (.tuple #[.pointer (some ⟨X, 0, none⟩), .bool true]) rfl ?_)
          | ((go_at_call 45; with_reducible refine (bclone_any f.bv f.xs _ (own_base HK.out.now (Nat.zero_le _)) HK.out.small.1 HK.out.bytes.1.cells).mono ?_); rintro e w' ⟨v, rfl, hv⟩)
          | go_in)
        go_ret2
        exact .inr ⟨v, X, f, HS.out, HO.out, HD.out, HF.out, rfl, hv⟩
  · have H := Lib.hid h
    have HS := Lib.hid hn
    have HL := Lib.hid hs
    clear h hn hs
    go_enter Try.func19, Try.ntmps19
    go_wp2_with (first
      | ((go_at_call 46; with_reducible refine (H.out.made).mono ?_); rintro e w' ⟨rfl, rfl⟩)
      | ((go_at_call 48; with_reducible refine (isName_no s _ HL.out HS.out).mono ?_); rintro e w' ⟨rfl, rfl⟩)
      | go_in)
    go_ret2
    exact .inl ⟨2, by decide, rfl, rfl, fun h => absurd h HS.out⟩
end Go.Proofs.Ytmfphnhdahaooaa
/- Fsync and Truncate of any store. -/
namespace Go.Proofs.Ytmfphnhdahaooaa
open Go.RowKit Go.Maps

theorem own_sl {w : World} {b : Nat} {e : TypeId} {size n : Nat} {v : Value} {xs : List Value} (h : w.ownsRow b e size v n xs) : ∃ ao c, v = .slice ao n c ∧ n ≤ c := by
  rcases h.2 with ⟨rfl, rfl⟩ | ⟨g, cap, cur, rfl, _, _, hc, _⟩
  · exact ⟨none, 0, rfl, Nat.le_refl _⟩
  · exact ⟨_, cap, rfl, hc⟩
theorem bclone_sl (v : Value) (xs : List Value) (w : World) (hg : w.ownsRow 0 5 1 v xs.length xs) (hn : xs.length ≤ 1048576) (hone : ∀ u ∈ xs, u.oneCell' = true) :
    Calls Try.prog 45 #[v] w fun e w' => ∃ ao c, e = .returned (.slice ao xs.length c) ∧ NewRow (.slice ao xs.length c) xs.length xs w w' := by
  refine (bclone_any v xs w hg hn hone).mono ?_
  rintro e w' ⟨v', rfl, hv⟩
  obtain ⟨ao, c, rfl, _⟩ := own_sl hv.own
  exact ⟨ao, c, rfl, hv⟩

/-- What a call that may be refused answers, and leaves: refused, or done by R. -/
def OpP (B F : Nat) (A : Fs) (k : Nat) (R : Fs → Fs → Prop) (w : World) (e : Ending) (w' : World) : Prop :=
  ∃ (c : Int) (A' : Fs), e = .returned (.int .i64 c) ∧ Sto w' B F A' (k + 1) ∧ ((c ≠ 0 ∧ (A' = A ∨ A' = A.step)) ∨ (c = 0 ∧ A.code = 0 ∧ R A.step A')) ∧ Frm B w w'

section
variable {w : World} {B F N L n m k : Nat} {A : Fs} {tv : Value}

theorem find_no (h : Raw w B F A N L n m tv) (s : ByteArray) (hn : NameP s) (hr : A.dir s = none) : Calls Try.prog 43 #[.pointer (some ⟨F, 0, none⟩), .string s] w fun e w' => e = .returned (.int .i64 3) ∧ w = w' := find_look h s hn none hr
theorem find_yes (h : Raw w B F A N L n m tv) (s : ByteArray) (X : Nat) (hr : A.dir s = some X) : Calls Try.prog 43 #[.pointer (some ⟨F, 0, none⟩), .string s] w fun e w' => e = .returned (.int .i64 0) ∧ w = w' := find_look h s (h.dirs s X hr).1 (some X) hr

theorem step0 (h : Raw w B F A N L n m tv) (hc : A.code = 0) : Calls Try.prog 44 #[.pointer (some ⟨F, 0, none⟩)] w fun e w' => e = .returned (.int .i64 0) ∧ Raw w' B F A.step N L n m tv ∧ w.grownBy w' (some F) := by
  refine (step_any F A.cap A.used N L tv A.fail A.pow A.off w h.store h.nums.1 h.nums.2).mono ?_
  rintro e w' ⟨rfl, hs⟩
  exact ⟨by rw [show stepC A.fail A.pow A.off = 0 from hc], h.step hs, hs.grown⟩
theorem step1 (h : Raw w B F A N L n m tv) (cd : Int) (hc : A.code = cd) : Calls Try.prog 44 #[.pointer (some ⟨F, 0, none⟩)] w fun e w' => e = .returned (.int .i64 cd) ∧ Raw w' B F A.step N L n m tv ∧ w.grownBy w' (some F) := by
  refine (step_any F A.cap A.used N L tv A.fail A.pow A.off w h.store h.nums.1 h.nums.2).mono ?_
  rintro e w' ⟨rfl, hs⟩
  exact ⟨by rw [show stepC A.fail A.pow A.off = cd from hc], h.step hs, hs.grown⟩

theorem sto_mk (h : Raw w B F A N L n m tv) (h1 : n ≤ k ∧ m + A.turns.length ≤ k ∧ -(4096 * (k : Int)) ≤ A.used ∧ A.used ≤ 4096 * (k : Int)) : Sto w B F A k := ⟨N, L, n, m, tv, h, h1⟩
theorem raw_frm {w' : World} (h : Raw w B F A N L n m tv) (hg : w.grownBy w' (some F)) : Frm B w w' := Frm.ofGrown hg h.store (.inl rfl) h.new.1

/-- Refused ahead of any step. -/
theorem op_refused {R : Fs → Fs → Prop} {e : Ending} {c : Int} (h : Raw w B F A N L n m tv) (h1 : n ≤ k ∧ m + A.turns.length ≤ k ∧ -(4096 * (k : Int)) ≤ A.used ∧ A.used ≤ 4096 * (k : Int)) (hc : c ≠ 0) (he : e = .returned (.int .i64 c)) : OpP B F A k R w e w :=
  ⟨c, A, he, (sto_mk h h1).mono (Nat.le_succ _), .inl ⟨hc, .inl rfl⟩, Frm.refl _ _⟩
/-- Refused by the step. -/
theorem op_stepped {R : Fs → Fs → Prop} {e : Ending} {c : Int} {w' : World} (h0 : Raw w B F A N L n m tv) (h : Raw w' B F A.step N L n m tv) (hg : w.grownBy w' (some F)) (h1 : n ≤ k ∧ m + A.turns.length ≤ k ∧ -(4096 * (k : Int)) ≤ A.used ∧ A.used ≤ 4096 * (k : Int)) (hc : c ≠ 0) (he : e = .returned (.int .i64 c)) : OpP B F A k R w e w' :=
  ⟨c, A.step, he, (sto_mk h h1).mono (Nat.le_succ _), .inl ⟨hc, .inr rfl⟩, raw_frm h0 hg⟩
end

def FsyncR (s : ByteArray) (A A' : Fs) : Prop := ∃ (X : Nat) (f : Fil) (lv : Value), A.dir s = some X ∧ A.file X = some f ∧ A' = { A with file := updF A.file X { f with lv := lv, ls := f.xs } }

theorem fsync_end {w w1 w2 : World} {B F N L n m k X : Nat} {A : Fs} {tv v : Value} {s : ByteArray} {f : Fil} (h0 : Raw w B F A N L n m tv) (h1 : n ≤ k ∧ m + A.turns.length ≤ k ∧ -(4096 * (k : Int)) ≤ A.used ∧ A.used ≤ 4096 * (k : Int)) (hc : A.code = 0) (hd : A.dir s = some X) (hf : A.file X = some f) (hB : B ≤ w.heap.size)
    (hg : w.grownBy w1 (some F)) (hR : Raw w1 B F A.step N L n m tv) (hv : NewRow v f.xs.length f.xs w1 w2) : OpP B F A k (FsyncR s) w (.returned (.int .i64 0)) (w2.setCell ⟨X, 1, none⟩ v) := by
  have hR2 : Raw w2 B F A.step N L n m tv := hR.kept fun _ _ hx => hb_below hx hv.below (hb_lt hx)
  have hk := hR2.files X f hf
  have hB1 : B ≤ w1.heap.size := Nat.le_trans hB hg.size
  have hset := hb_set_same hk.block 1 v
  have vnew : ∀ g, v.ownBlock = some g → w1.heap.size ≤ g := fun g hgv => (hv.own.lt g hgv).1
  have other : ∀ (b : Nat) (x : Obj), b ≠ X → w2.heap[b]? = some x → (w2.setCell ⟨X, 1, none⟩ v).heap[b]? = some x := fun b x hb hx => hb_set_other hx v hb
  have hk1 := hR.files X f hf
  have hfin : Raw (w2.setCell ⟨X, 1, none⟩ v) B F { A.step with file := updF A.step.file X { f with lv := v, ls := f.xs } } N L n m tv := by
    refine Raw.refile hR2 hf ⟨hk.new, hset, own_kept hk.now fun g x hgv hx => other g x (fun e => own_ne hk.now hk.block (by simp) (by rw [hgv, e])) hx,
      own_kept (own_base hv.own hB1) fun g x hgv hx => other g x (fun e => own_ne hv.own hk.block (by simp) (by rw [hgv, e])) hx, ⟨hk.small.1, hk.small.1⟩, ⟨hk.bytes.1, hk.bytes.1⟩⟩ (fun b x hb _ hx => other b x hb hx) (.inl rfl) ?_ ?_
    · exact .inr (fresh_new hR vnew)
    · intro _ e
      obtain ⟨g, hgv⟩ := Option.ne_none_iff_exists'.1 ‹f.bv.ownBlock ≠ none›
      have := own_lt hk1.now hgv
      have := vnew g (by rw [← e]; exact hgv)
      omega
  refine ⟨0, _, rfl, (sto_mk hfin h1).mono (Nat.le_succ _), .inr ⟨rfl, hc, X, f, v, hd, hf, rfl⟩, ?_⟩
  exact ((raw_frm h0 hg).trans (Frm.ofBelow hv.below hB1)).trans (Frm.ofGrown (grown_at w2 X 1 v) hk.block (.inr (.inl rfl)) hk.new)

set_option maxRecDepth 100000 in
set_option maxHeartbeats 1000000 in
theorem fsync_any {w : World} {B F N L n m k : Nat} {A : Fs} {tv : Value} (h : Raw w B F A N L n m tv) (hb : n ≤ k ∧ m + A.turns.length ≤ k ∧ -(4096 * (k : Int)) ≤ A.used ∧ A.used ≤ 4096 * (k : Int)) (hB : B ≤ w.heap.size) (s : ByteArray) (hs : s.size ≤ maxLen) :
    Calls Try.prog 17 #[.pointer (some ⟨F, 0, none⟩), .string s] w (OpP B F A k (FsyncR s) w) := by
  have H := Lib.hid h
  have HB := Lib.hid hb
  have HL := Lib.hid hs
  have hFl := hb_lt h.store
  clear h hb hs
  by_cases hn : NameP s
  · cases hd : A.dir s with
    | none =>
      have HS := Lib.hid hn
      have HD := Lib.hid hd
      clear hn hd
      go_enter Try.func17, Try.ntmps17
      go_wp2_with (first
        | ((go_at_call 43; with_reducible refine (find_no H.out s HS.out HD.out).mono ?_); rintro e w' ⟨rfl, rfl⟩)
        | go_in)
      go_ret
      exact op_refused H.out HB.out (by decide) rfl
    | some X =>
      obtain ⟨f, hf⟩ := Option.isSome_iff_exists.1 (H.out.dirs s X hd).2
      have HD := Lib.hid hd
      have HF := Lib.hid hf
      clear hn hd hf
      by_cases hc : A.code = 0
      · have HC := Lib.hid hc
        clear hc
        go_enter Try.func17, Try.ntmps17
        go_upto_region 7 with (first
          | ((go_at_call 43; with_reducible refine (find_yes H.out s X HD.out).mono ?_); rintro e w' ⟨rfl, rfl⟩)
          | ((go_at_call 44; with_reducible refine (step0 H.out HC.out).mono ?_); rintro e w1 ⟨rfl, hR, hg⟩)
          | go_in)
        have c2 := hR.cells.c2
        have hk := hR.files X f HF.out
        have x0 : w1.cell? ⟨X, 0, none⟩ = some f.bv := hb_at hk.block 0 rfl
        have hs1 := hg.size
        have hB1 : B ≤ w1.heap.size := by omega
        have HR := Lib.hid hR
        have HG := Lib.hid hg
        have HK := Lib.hid hk
        clear hR hg hk
        have hXl := hb_lt HK.out.block
        go_wp2_with (first
          | (at_lookup; refine wpList_nm_look _ rfl _ _ false rfl rfl HR.out.names s rfl HL.out (some X) HD.out (.pointer (some ⟨X, 0, none⟩)) rfl ?_)
          | ((go_at_call 45; with_reducible refine (bclone_sl f.bv f.xs _ (own_base HK.out.now (Nat.zero_le _)) HK.out.small.1 HK.out.bytes.1.cells).mono ?_); rintro e w2 ⟨vao, vc, rfl, hv⟩; have HV := Lib.hid hv; have x1 : w2.cell? ⟨X, 1, none⟩ = some f.lv := hb_at (hb_below HK.out.block hv.below hXl) 1 rfl; have y1 := hb_free (hb_below HK.out.block hv.below hXl) 1; clear hv)
          | go_in)
        go_ret
        exact fsync_end H.out HB.out HC.out HD.out HF.out hB HG.out HR.out HV.out
      · obtain ⟨cd, hcd⟩ : ∃ cd, A.code = cd := ⟨_, rfl⟩
        rw [hcd] at hc
        have n1 : (cd == 0) = false := by simpa using hc
        have n2 : (cd != 0) = true := by simpa using hc
        have HC := Lib.hid hc
        have HCD := Lib.hid hcd
        clear hc hcd
        go_enter Try.func17, Try.ntmps17
        go_wp2_with (first
          | ((go_at_call 43; with_reducible refine (find_yes H.out s X HD.out).mono ?_); rintro e w' ⟨rfl, rfl⟩)
          | ((go_at_call 44; with_reducible refine (step1 H.out cd HCD.out).mono ?_); rintro e w1 ⟨rfl, hR, hg⟩)
          | go_in)
        go_ret
        exact op_stepped H.out hR hg HB.out HC.out rfl
  · have HS := Lib.hid hn
    clear hn
    go_enter Try.func17, Try.ntmps17
    go_wp2_with (first
      | ((go_at_call 43; with_reducible refine (find_bad H.out s HL.out HS.out).mono ?_); rintro e w' ⟨rfl, rfl⟩)
      | go_in)
    go_ret
    exact op_refused H.out HB.out (by decide) rfl
end Go.Proofs.Ytmfphnhdahaooaa
/- Truncate of any store. -/
namespace Go.Proofs.Ytmfphnhdahaooaa
open Go.RowKit Go.Maps

theorem own_take {w : World} {B n k c : Nat} {e : TypeId} {ao : Option Addr} {xs : List Value} (h : w.ownsRow B e 1 (.slice ao n c) n xs) (hk : k ≤ n) : w.ownsRow B e 1 (.slice ao k c) k (xs.take k) := by
  obtain ⟨h1, h2⟩ := h
  have h1' : xs.length = n := by omega
  refine ⟨by rw [List.length_take]; omega, ?_⟩
  rcases h2 with ⟨h3, h4⟩ | ⟨g, cap, cur, h3, h4, h5, h6, h7, h8, h9⟩
  · obtain rfl : n = 0 := h4
    obtain rfl : k = 0 := by omega
    exact .inl ⟨h3, rfl⟩
  · simp at h3
    obtain ⟨rfl, rfl⟩ := h3
    refine .inr ⟨g, c, cur, rfl, h4, h5, by omega, h7, h8, ?_⟩
    rw [← h9, List.take_take]
    congr 1
    omega

def sz (n : Nat) : Nat := (n + 511) / 512
theorem sz_le {n : Nat} (h : n ≤ 1048576) : sz n ≤ 2048 := by unfold sz; omega

def TruncR (s : ByteArray) (k : Nat) (A A' : Fs) : Prop := ∃ (X : Nat) (f : Fil) (bv : Value), A.dir s = some X ∧ A.file X = some f ∧ k ≤ f.xs.length ∧
  A' = { A with used := A.used + ((sz k : Int) - (sz f.xs.length : Int)), file := updF A.file X { f with bv := bv, xs := f.xs.take k } }

theorem trunc_end {w w1 w2 : World} {B F N L n m k X i c : Nat} {A : Fs} {tv lv : Value} {ao : Option Addr} {xs ls : List Value} {s : ByteArray} (h0 : Raw w B F A N L n m tv) (h1 : n ≤ k ∧ m + A.turns.length ≤ k ∧ -(4096 * (k : Int)) ≤ A.used ∧ A.used ≤ 4096 * (k : Int)) (hc : A.code = 0) (hd : A.dir s = some X) (hf : A.file X = some ⟨.slice ao xs.length c, lv, xs, ls⟩)
    (hi : i ≤ xs.length) (hg : w.grownBy w1 (some F)) (hR : Raw w1 B F A.step N L n m tv) (hg2 : w1.grownBy w2 (some F)) (hR2 : Raw w2 B F { A.step with used := A.used + ((sz i : Int) - (sz xs.length : Int)) } N L n m tv) :
    OpP B F A k (TruncR s i) w (.returned (.int .i64 0)) (w2.setCell ⟨X, 0, none⟩ (.slice ao i c)) := by
  have hk := hR2.files X _ hf
  have hsm : xs.length ≤ 1048576 := hk.small.1
  have hset := hb_set_same hk.block 0 (.slice ao i c)
  have other : ∀ (b : Nat) (x : Obj), b ≠ X → w2.heap[b]? = some x → (w2.setCell ⟨X, 0, none⟩ (.slice ao i c)).heap[b]? = some x := fun b x hb hx => hb_set_other hx _ hb
  have hnow := own_take hk.now hi
  have hlen : (xs.take i).length = i := by rw [List.length_take]; omega
  have hfin : Raw (w2.setCell ⟨X, 0, none⟩ (.slice ao i c)) B F { ({ A.step with used := A.used + ((sz i : Int) - (sz xs.length : Int)) } : Fs) with file := updF A.file X ⟨.slice ao i c, lv, xs.take i, ls⟩ } N L n m tv := by
    refine Raw.refile hR2 hf ⟨hk.new, hset, ?_, own_kept hk.lasts fun g x hgv hx => other g x (fun e => own_ne hk.lasts hk.block (by simp) (by rw [hgv, e])) hx, ⟨by rw [hlen]; omega, hk.small.2⟩, ⟨fun u hu => hk.bytes.1 u (List.mem_of_mem_take hu), hk.bytes.2⟩⟩ (fun b x hb _ hx => other b x hb hx) (.inl ?_) (.inl rfl) ?_
    · show World.ownsRow _ _ _ _ (.slice ao i c) (xs.take i).length (xs.take i)
      rw [hlen]
      exact own_kept hnow fun g x hgv hx => other g x (fun e => own_ne hnow hk.block (by simp) (by rw [hgv, e])) hx
    · cases ao <;> rfl
    · have := (hR2.lone X X _ _ hf hf).2
      cases ao with
      | none => simp [Value.ownBlock]
      | some a => exact this
  have b1 := sz_le hsm
  have b2 := sz_le (Nat.le_trans hi hsm)
  refine ⟨0, _, rfl, sto_mk hfin ⟨by omega, by have := h1.2.1; exact Nat.le_succ_of_le this, ?_, ?_⟩, .inr ⟨rfl, hc, X, _, .slice ao i c, hd, hf, hi, rfl⟩, ?_⟩
  · show -(4096 * ((k + 1 : Nat) : Int)) ≤ A.used + ((sz i : Int) - (sz xs.length : Int))
    omega
  · show A.used + ((sz i : Int) - (sz xs.length : Int)) ≤ 4096 * ((k + 1 : Nat) : Int)
    omega
  · exact ((raw_frm h0 hg).trans (raw_frm hR hg2)).trans (Frm.ofGrown (grown_at w2 X 0 _) hk.block (.inr (.inl rfl)) hk.new)

theorem used_turned {w : World} {B F N L n m : Nat} {A : Fs} {tv : Value} (h : Raw w B F A N L n m tv) (U V : Int) (hV : V = U) :
    Raw (w.setCell ⟨F, 1, none⟩ (.int .i64 V)).drew B F { A with used := U } N L n m tv ∧ w.grownBy (w.setCell ⟨F, 1, none⟩ (.int .i64 V)).drew (some F) := by
  subst hV
  have hg : w.grownBy (w.setCell ⟨F, 1, none⟩ (.int .i64 V)).drew (some F) := by
    have h1 := grown_at w F 1 (.int .i64 V)
    exact ⟨h1.os, h1.tape, h1.output, h1.size, h1.block⟩
  exact ⟨h.turned hg { A with used := V } (hb_set_same h.store 1 _) rfl rfl rfl rfl rfl h.nums, hg⟩

set_option maxRecDepth 100000 in
set_option maxHeartbeats 4000000 in
theorem trunc_any {w : World} {B F N L n m k : Nat} {A : Fs} {tv : Value} (h : Raw w B F A N L n m tv) (hb : n ≤ k ∧ m + A.turns.length ≤ k ∧ -(4096 * (k : Int)) ≤ A.used ∧ A.used ≤ 4096 * (k : Int)) (hk1 : k ≤ 1000) (s : ByteArray) (hs : s.size ≤ maxLen) (j : Int) :
    Calls Try.prog 27 #[.pointer (some ⟨F, 0, none⟩), .string s, .int .i64 j] w (OpP B F A k (TruncR s j.toNat) w) := by
  have H := Lib.hid h
  have HB := Lib.hid hb
  have HL := Lib.hid hs
  clear h hb hs
  by_cases hj : j < 0
  · go_enter Try.func27, Try.ntmps27
    go_wp2_with (first
      | ((go_at_call 46; with_reducible refine (H.out.made).mono ?_); rintro e w' ⟨rfl, rfl⟩)
      | go_in)
    go_ret
    exact op_refused H.out HB.out (by decide) rfl
  obtain ⟨i, rfl⟩ : ∃ i : Nat, j = (i : Int) := ⟨j.toNat, by omega⟩
  rw [Int.toNat_natCast]
  clear hj
  by_cases hn : NameP s
  · cases hd : A.dir s with
    | none =>
      have HS := Lib.hid hn
      have HD := Lib.hid hd
      clear hn hd
      go_enter Try.func27, Try.ntmps27
      go_wp2_with (first
        | ((go_at_call 46; with_reducible refine (H.out.made).mono ?_); rintro e w' ⟨rfl, rfl⟩)
        | ((go_at_call 43; with_reducible refine (find_no H.out s HS.out HD.out).mono ?_); rintro e w' ⟨rfl, rfl⟩)
        | go_in)
      go_ret
      exact op_refused H.out HB.out (by decide) rfl
    | some X =>
      obtain ⟨f, hf⟩ := Option.isSome_iff_exists.1 (H.out.dirs s X hd).2
      have hk := H.out.files X f hf
      obtain ⟨ao, c, hbv, hlc⟩ := own_sl hk.now
      obtain ⟨bv, lv, xs, ls⟩ := f
      dsimp only at hbv hlc
      subst hbv
      have hsm := hk.small.1
      dsimp only at hsm
      have HD := Lib.hid hd
      have HF := Lib.hid hf
      have HK := Lib.hid hk
      have c2 := H.out.cells.c2
      clear hn hd hf hk
      by_cases hi : xs.length < i
      · have hi2 : (xs.length : Int) < (i : Int) := by omega
        go_enter Try.func27, Try.ntmps27
        go_wp2_with (first
          | ((go_at_call 46; with_reducible refine (H.out.made).mono ?_); rintro e w' ⟨rfl, rfl⟩)
          | ((go_at_call 43; with_reducible refine (find_yes H.out s X HD.out).mono ?_); rintro e w' ⟨rfl, rfl⟩)
          | (at_lookup; refine wpList_nm_look _ rfl _ _ false rfl rfl H.out.names s rfl HL.out (some X) HD.out (.pointer (some ⟨X, 0, none⟩)) rfl ?_)
          | ((go_at_call 57; with_reducible refine (size_ok X xs.length c ao lv _ HK.out.block).mono ?_); rintro e w' ⟨rfl, rfl⟩)
          | go_in)
        go_ret
        exact op_refused H.out HB.out (by decide) rfl
      · have hi2 : (i : Int) ≤ (xs.length : Int) := by omega
        by_cases hc : A.code = 0
        · have HC := Lib.hid hc
          clear hc
          go_enter Try.func27, Try.ntmps27
          go_upto_region 14 with (first
            | ((go_at_call 46; with_reducible refine (H.out.made).mono ?_); rintro e w' ⟨rfl, rfl⟩)
            | ((go_at_call 43; with_reducible refine (find_yes H.out s X HD.out).mono ?_); rintro e w' ⟨rfl, rfl⟩)
            | (at_lookup; refine wpList_nm_look _ rfl _ _ false rfl rfl H.out.names s rfl HL.out (some X) HD.out (.pointer (some ⟨X, 0, none⟩)) rfl ?_)
            | ((go_at_call 57; with_reducible refine (size_ok X xs.length c ao lv _ HK.out.block).mono ?_); rintro e w' ⟨rfl, rfl⟩)
            | ((go_at_call 44; with_reducible refine (step0 H.out HC.out).mono ?_); rintro e w1 ⟨rfl, hR, hg⟩)
            | go_in)
          have hk1 := hR.files X _ HF.out
          have c1 : w1.cell? ⟨F, 1, none⟩ = some (.int .i64 A.used) := hR.cells.c1
          have f1 := hb_free hR.store 1
          have hz1 : ((i + 511) / 512 : Nat) ≤ 2048 := by omega
          have hz2 : ((xs.length + 511) / 512 : Nat) ≤ 2048 := by omega
          have hub := HB.out.2.2
          have qv : IntKind.i64.wrap (A.used + IntKind.i64.wrap (((i : Int) + 511) / 512 - ((xs.length : Int) + 511) / 512)) = A.used + ((sz i : Int) - (sz xs.length : Int)) := by
            rw [IntWalk.i64_in (((i : Int) + 511) / 512 - ((xs.length : Int) + 511) / 512) (by omega), IntWalk.i64_in _ (by omega)]
            unfold sz
            omega
          have QV := Lib.hid qv
          clear qv
          have HG := Lib.hid hg
          have HR := Lib.hid hR
          have HK1 := Lib.hid hk1
          have HI := Lib.hid hi
          have HSM := Lib.hid hsm
          clear hg hR hk1 hi hz1 hz2 hub
          have hkd : w1.drew.heap[X]? = some (.cells #[.slice ao xs.length c, lv] 85 (0, 0)) := HK1.out.block
          have HKD := Lib.hid hkd
          clear hkd
          go_cut [46] (fun _ wx => Raw wx B F { A.step with used := A.used + ((sz i : Int) - (sz xs.length : Int)) } N L n m tv ∧ w1.grownBy wx (some F))
          case first =>
            go_region_with (first
              | ((go_at_call 57; with_reducible refine (size_ok X xs.length c ao lv _ HKD.out).mono ?_); rintro e w' ⟨rfl, rfl⟩)
              | ((go_at_call 53; with_reducible refine (sectors_any _ (by have := HI.out; have := HSM.out; omega) _).mono ?_); rintro e w' ⟨rfl, rfl⟩))
            all_goals
              go_wp2_with fail
              go_meet
              exact used_turned HR.out _ _ QV.out
          case rest =>
            obtain ⟨hR2, hg2⟩ := hcut
            have hk2 := (hR2.files X _ HF.out).block
            have x0 : wc.cell? ⟨X, 0, none⟩ = some (.slice ao xs.length c) := hb_at hk2 0 rfl
            have y0 := hb_free hk2 0
            have HR2 := Lib.hid hR2
            have HG2 := Lib.hid hg2
            clear hR2 hg2 hk2 c1 f1
            have i0 : (0 : Int) ≤ (i : Int) := by omega
            have i1 : (i : Int) ≤ (c : Int) := by have := HI.out; omega
            go_wp2
            go_ret
            exact trunc_end H.out HB.out HC.out HD.out HF.out (by have := HI.out; omega) HG.out HR.out HG2.out HR2.out
        · obtain ⟨cd, hcd⟩ : ∃ cd, A.code = cd := ⟨_, rfl⟩
          rw [hcd] at hc
          have n1 : (cd == 0) = false := by simpa using hc
          have n2 : (cd != 0) = true := by simpa using hc
          have HC := Lib.hid hc
          have HCD := Lib.hid hcd
          clear hc hcd
          go_enter Try.func27, Try.ntmps27
          go_wp2_with (first
            | ((go_at_call 46; with_reducible refine (H.out.made).mono ?_); rintro e w' ⟨rfl, rfl⟩)
            | ((go_at_call 43; with_reducible refine (find_yes H.out s X HD.out).mono ?_); rintro e w' ⟨rfl, rfl⟩)
            | (at_lookup; refine wpList_nm_look _ rfl _ _ false rfl rfl H.out.names s rfl HL.out (some X) HD.out (.pointer (some ⟨X, 0, none⟩)) rfl ?_)
            | ((go_at_call 57; with_reducible refine (size_ok X xs.length c ao lv _ HK.out.block).mono ?_); rintro e w' ⟨rfl, rfl⟩)
            | ((go_at_call 44; with_reducible refine (step1 H.out cd HCD.out).mono ?_); rintro e w1 ⟨rfl, hR, hg⟩)
            | go_in)
          go_ret
          exact op_stepped H.out hR hg HB.out HC.out rfl
  · have HS := Lib.hid hn
    clear hn
    go_enter Try.func27, Try.ntmps27
    go_wp2_with (first
      | ((go_at_call 46; with_reducible refine (H.out.made).mono ?_); rintro e w' ⟨rfl, rfl⟩)
      | ((go_at_call 43; with_reducible refine (find_bad H.out s HL.out HS.out).mono ?_); rintro e w' ⟨rfl, rfl⟩)
      | go_in)
    go_ret
    exact op_refused H.out HB.out (by decide) rfl
end Go.Proofs.Ytmfphnhdahaooaa
/- A turn done on any store. -/
namespace Go.Proofs.Ytmfphnhdahaooaa
open Go.RowKit Go.Maps

theorem appT_names {g : ByteArray → Option Nat} {t : Tn} {P : Nat → Prop} (h : ∀ s X, g s = some X → NameP s ∧ P X) (h0 : t.kind ≠ 1 → t.kind ≠ 2 → NameP t.name) (h2 : t.kind = 2 → NameP t.dst) (hp : ∀ X, t.ptr = some X → P X) (ht : t.ok) :
    ∀ s X, appT g t s = some X → NameP s ∧ P X := by
  intro s X hs
  unfold appT at hs
  split at hs
  · rename_i hk
    unfold upN at hs
    split at hs
    · rename_i e
      exact ⟨e ▸ h0 (by omega) (by omega), hp X hs⟩
    · exact h s X hs
  · split at hs
    · unfold upN at hs
      split at hs
      · cases hs
      · exact h s X hs
    · rename_i hk0 hk1
      have hk2 : t.kind = 2 := by rcases ht.2.2 with ⟨h, _⟩ | h | h <;> omega
      cases hg : g t.name with
      | none =>
        rw [hg] at hs
        exact h s X hs
      | some Y =>
        rw [hg] at hs
        dsimp only at hs
        unfold upN at hs
        split at hs
        · rename_i e
          obtain rfl := Option.some.inj hs
          exact ⟨e ▸ h2 hk2, (h _ _ hg).2⟩
        · split at hs
          · cases hs
          · exact h s X hs

theorem flat_snoc (l : List Tn) (t : Tn) : (l ++ [t]).flatMap Tn.cells = l.flatMap Tn.cells ++ t.cells := by simp [List.flatMap_append]

section
variable {w w' : World} {B F N L n m : Nat} {A : Fs} {tv : Value} {t : Tn}
theorem Raw.did (h : Raw w B F A N L n m tv) (hd : DidT B F N L A.cap A.used A.fail A.pow A.off tv A.turns.length n (A.turns.flatMap Tn.cells) t A.dir w w') (ht : t.ok) (h0 : t.kind ≠ 1 → t.kind ≠ 2 → NameP t.name) (h2 : t.kind = 2 → NameP t.dst) (hp : ∀ X, t.ptr = some X → (A.file X).isSome = true) :
    (∃ tv', Raw w' B F { A with dir := appT A.dir t, turns := A.turns ++ [t] } N L (n + 1) m tv') ∧ Frm B w w' := by
  obtain ⟨tv', hs, hr⟩ := hd.own
  obtain ⟨es, ck, hN⟩ := h.names.heap
  obtain ⟨ls, cl, hL⟩ := h.lasts.heap
  have other : ∀ (b : Nat) (x : Obj), (∀ cs f, x ≠ .cells cs 82 f) → (∀ cs f, x ≠ .cells cs 87 f) → b ≠ N → w.heap[b]? = some x → w'.heap[b]? = some x := fun b x h82 h87 hb hx =>
    hd.kept b x hb (fun e => by rw [e, h.store] at hx; exact h82 _ _ (Option.some.inj hx).symm) (own_ne h.row hx h87) hx
  refine ⟨⟨tv', hs, hd.map, h.lasts.kept fun x hx => ?_, h.two, ?_, h.new, ?_, h.lone, appT_names h.dirs h0 h2 hp ht, h.lastd, ?_, h.caps, h.nums⟩, hd.size, hd.rest, ?_, ?_⟩
  · rw [hL] at hx
    obtain rfl := Option.some.inj hx
    exact other L _ (by simp) (by simp) (Ne.symm h.two) hL
  · show World.ownsRow _ _ _ _ _ (A.turns ++ [t]).length ((A.turns ++ [t]).flatMap Tn.cells)
    rw [flat_snoc, List.length_append]
    exact hr
  · intro X f hX
    have hk := h.files X f hX
    have hrow : ∀ {v : Value} {k : Nat} {xs : List Value}, w.ownsRow B 5 1 v k xs → ∀ g x, v.ownBlock = some g → w.heap[g]? = some x → w'.heap[g]? = some x := by
      intro v k xs ho g x hg hx
      rcases ho.2 with ⟨e, _⟩ | ⟨g2, cap, cur, e, _, hb, _⟩
      · rw [e] at hg; cases hg
      · rw [e] at hg
        obtain rfl : g2 = g := by simpa [Value.ownBlock] using hg
        rw [hb] at hx
        obtain rfl := Option.some.inj hx
        exact other _ _ (by simp) (by simp) (Ne.symm (map_ne hN hb)) hb
    exact hk.kept (fun x hx => by
      rw [hk.block] at hx
      obtain rfl := Option.some.inj hx
      exact other _ _ (by simp) (by simp) (Ne.symm (map_ne hN hk.block)) hk.block) (hrow hk.now) (hrow hk.lasts)
  · intro t' ht'
    rcases List.mem_append.1 ht' with h1 | h1
    · exact h.turn t' h1
    · obtain rfl := List.mem_singleton.1 h1
      exact ⟨ht, h0, h2, hp⟩
  · intro b hb
    by_cases hl : b < w.heap.size
    · have hx : w.heap[b]? = some w.heap[b] := Array.getElem?_eq_getElem hl
      rw [hx]
      refine hd.kept b _ (by have := h.new.2.1; omega) (by have := h.new.1; omega) (fun e => ?_) hx
      have := (h.row.lt b e.symm).1
      omega
    · have := hb_lt h.store
      have := h.new.1
      omega
  · intro b cs tg f h1 h2' h3 h4 hx
    exact other b _ (by intro cs f e; simp at e; exact h1 e.2.1) (by intro cs f e; simp at e; exact h3 e.2.1) (Ne.symm (map_ne hN hx)) hx

theorem do_goes (h : Raw w B F A N L n m tv) (s : ByteArray) (hs : s.size ≤ maxLen) (hn : n < maxLen) (hk : A.turns.length ≤ 1000000) :
    Calls Try.prog 58 #[.pointer (some ⟨F, 0, none⟩), .agg #[.int .i64 1, .string s, .string ⟨#[]⟩, .pointer none]] w fun e w' => e = .returned (.tuple #[]) ∧
      (∃ tv', Raw w' B F { A with dir := appT A.dir ⟨1, s, ⟨#[]⟩, none⟩, turns := A.turns ++ [⟨1, s, ⟨#[]⟩, none⟩] } N L (n + 1) m tv') ∧ Frm B w w' := by
  have ht : (⟨1, s, ⟨#[]⟩, none⟩ : Tn).ok := ⟨hs, Nat.zero_le _, .inr (.inl rfl)⟩
  have hB : B ≤ w.heap.size := Nat.le_trans h.new.1 (Nat.le_of_lt (hb_lt h.store))
  refine (do_any B F N L A.cap A.used A.fail A.pow A.off tv A.turns.length n (A.turns.flatMap Tn.cells) ⟨1, s, ⟨#[]⟩, none⟩ A.dir w h.store h.names hn h.row hk hB ht).mono ?_
  rintro e w' ⟨rfl, hd⟩
  exact ⟨rfl, h.did hd ht (fun h _ => absurd rfl h) (fun h => by cases h) (fun X hX => by cases hX)⟩
theorem do_becomes (h : Raw w B F A N L n m tv) (s d : ByteArray) (hs : s.size ≤ maxLen) (hd : NameP d) (hn : n < maxLen) (hk : A.turns.length ≤ 1000000) :
    Calls Try.prog 58 #[.pointer (some ⟨F, 0, none⟩), .agg #[.int .i64 2, .string s, .string d, .pointer none]] w fun e w' => e = .returned (.tuple #[]) ∧
      (∃ tv', Raw w' B F { A with dir := appT A.dir ⟨2, s, d, none⟩, turns := A.turns ++ [⟨2, s, d, none⟩] } N L (n + 1) m tv') ∧ Frm B w w' := by
  have ht : (⟨2, s, d, none⟩ : Tn).ok := ⟨hs, hd.small, .inr (.inr rfl)⟩
  have hB : B ≤ w.heap.size := Nat.le_trans h.new.1 (Nat.le_of_lt (hb_lt h.store))
  refine (do_any B F N L A.cap A.used A.fail A.pow A.off tv A.turns.length n (A.turns.flatMap Tn.cells) ⟨2, s, d, none⟩ A.dir w h.store h.names hn h.row hk hB ht).mono ?_
  rintro e w' ⟨rfl, hdd⟩
  exact ⟨rfl, h.did hdd ht (fun _ h => absurd rfl h) (fun _ => hd) (fun X hX => by cases hX)⟩
end
end Go.Proofs.Ytmfphnhdahaooaa
/- Remove of any store. -/
namespace Go.Proofs.Ytmfphnhdahaooaa
open Go.RowKit Go.Maps

def sizeAt (A : Fs) (s : ByteArray) : Nat :=
  match A.dir s with
  | none => 0
  | some X =>
    match A.file X with
    | none => 0
    | some f => f.xs.length
theorem sizeAt_some {A : Fs} {s : ByteArray} {X : Nat} {f : Fil} (hd : A.dir s = some X) (hf : A.file X = some f) : sizeAt A s = f.xs.length := by simp [sizeAt, hd, hf]
theorem sizeAt_none {A : Fs} {s : ByteArray} (hd : A.dir s = none) : sizeAt A s = 0 := by simp [sizeAt, hd]

def TurnR (s : ByteArray) (t : Tn) (A A' : Fs) : Prop := A' = { A with used := A.used - (sz (sizeAt A s) : Int), dir := appT A.dir t, turns := A.turns ++ [t] }

theorem turn_end {w w1 w2 w3 : World} {B F N L n m k : Nat} {A : Fs} {tv tv' : Value} {s : ByteArray} {t : Tn} (h0 : Raw w B F A N L n m tv) (h1 : n ≤ k ∧ m + A.turns.length ≤ k ∧ -(4096 * (k : Int)) ≤ A.used ∧ A.used ≤ 4096 * (k : Int)) (hc : A.code = 0) (hz : sizeAt A s ≤ 1048576)
    (hg : w.grownBy w1 (some F)) (hR : Raw w1 B F A.step N L n m tv) (hg2 : w1.grownBy w2 (some F)) (hf : Frm B w2 w3)
    (hR3 : Raw w3 B F { ({ A.step with used := A.used - (sz (sizeAt A s) : Int) } : Fs) with dir := appT A.dir t, turns := A.turns ++ [t] } N L (n + 1) m tv') :
    OpP B F A k (TurnR s t) w (.returned (.int .i64 0)) w3 := by
  have b1 := sz_le hz
  refine ⟨0, _, rfl, sto_mk hR3 ⟨by omega, ?_, ?_, ?_⟩, .inr ⟨rfl, hc, rfl⟩, ((raw_frm h0 hg).trans (raw_frm hR hg2)).trans hf⟩
  · show m + (A.turns ++ [t]).length ≤ k + 1
    rw [List.length_append]
    have := h1.2.1
    simp
    omega
  · show -(4096 * ((k + 1 : Nat) : Int)) ≤ A.used - (sz (sizeAt A s) : Int)
    omega
  · show A.used - (sz (sizeAt A s) : Int) ≤ 4096 * ((k + 1 : Nat) : Int)
    omega

set_option maxRecDepth 100000 in
set_option maxHeartbeats 4000000 in
theorem remove_any {w : World} {B F N L n m k : Nat} {A : Fs} {tv : Value} (h : Raw w B F A N L n m tv) (hb : n ≤ k ∧ m + A.turns.length ≤ k ∧ -(4096 * (k : Int)) ≤ A.used ∧ A.used ≤ 4096 * (k : Int)) (hk1 : k ≤ 1000) (s : ByteArray) (hs : s.size ≤ maxLen) :
    Calls Try.prog 29 #[.pointer (some ⟨F, 0, none⟩), .string s] w (OpP B F A k (TurnR s ⟨1, s, ⟨#[]⟩, none⟩) w) := by
  have H := Lib.hid h
  have HB := Lib.hid hb
  have HL := Lib.hid hs
  clear h hb hs
  by_cases hn : NameP s
  · cases hd : A.dir s with
    | none =>
      have HS := Lib.hid hn
      have HD := Lib.hid hd
      clear hn hd
      go_enter Try.func29, Try.ntmps29
      go_wp2_with (first
        | ((go_at_call 43; with_reducible refine (find_no H.out s HS.out HD.out).mono ?_); rintro e w' ⟨rfl, rfl⟩)
        | go_in)
      go_ret
      exact op_refused H.out HB.out (by decide) rfl
    | some X =>
      obtain ⟨f, hf⟩ := Option.isSome_iff_exists.1 (H.out.dirs s X hd).2
      have hk := H.out.files X f hf
      obtain ⟨ao, c, hbv, hlc⟩ := own_sl hk.now
      obtain ⟨bv, lv, xs, ls⟩ := f
      dsimp only at hbv hlc
      subst hbv
      have hsm : xs.length ≤ 1048576 := hk.small.1
      have HZ := Lib.hid (sizeAt_some hd hf)
      have HD := Lib.hid hd
      have HF := Lib.hid hf
      clear hn hd hf hk
      by_cases hc : A.code = 0
      · have HC := Lib.hid hc
        clear hc
        go_enter Try.func29, Try.ntmps29
        go_upto_region 7 with (first
          | ((go_at_call 43; with_reducible refine (find_yes H.out s X HD.out).mono ?_); rintro e w' ⟨rfl, rfl⟩)
          | ((go_at_call 44; with_reducible refine (step0 H.out HC.out).mono ?_); rintro e w1 ⟨rfl, hR, hg⟩)
          | go_in)
        have c1 : w1.cell? ⟨F, 1, none⟩ = some (.int .i64 A.used) := hR.cells.c1
        have c2 := hR.cells.c2
        have f1 := hb_free hR.store 1
        have hub := HB.out.2.2
        have qv : IntKind.i64.wrap (A.used - ((xs.length : Int) + 511) / 512) = A.used - (sz (sizeAt A s) : Int) := by
          rw [IntWalk.i64_in _ (by omega), HZ.out]
          unfold sz
          omega
        have QV := Lib.hid qv
        have lk : (Instr.lookup 79 (.map (some N)) (.string s) false).run Try.prog w1.drew = .ok (.pointer (some ⟨X, 0, none⟩)) w1.drew := (hR.names.kept (w' := w1.drew) fun _ h => h).look false s HL.out (some X) HD.out
        have hkd : w1.drew.heap[X]? = some (.cells #[.slice ao xs.length c, lv] 85 (0, 0)) := (hR.files X _ HF.out).block
        have HKD := Lib.hid hkd
        have HG := Lib.hid hg
        have HR := Lib.hid hR
        have HSM := Lib.hid hsm
        clear hg hR hub qv hkd
        go_cut [30] (fun _ wx => Raw wx B F { A.step with used := A.used - (sz (sizeAt A s) : Int) } N L n m tv ∧ w1.grownBy wx (some F))
        case first =>
          go_region_with (first
            | ((go_at_call 57; with_reducible refine (size_ok X xs.length c ao lv _ HKD.out).mono ?_); rintro e w' ⟨rfl, rfl⟩)
            | ((go_at_call 53; with_reducible refine (sectors_any _ (by have := HSM.out; omega) _).mono ?_); rintro e w' ⟨rfl, rfl⟩))
          all_goals
            go_wp2_with fail
            go_meet
            exact used_turned HR.out _ _ QV.out
        case rest =>
          obtain ⟨hR2, hg2⟩ := hcut
          have HR2 := Lib.hid hR2
          have HG2 := Lib.hid hg2
          have hdo := do_goes HR2.out s HL.out (show n < maxLen by have := HB.out.1; unfold maxLen; omega) (show A.turns.length ≤ 1000000 by have := HB.out.2.1; omega)
          have HDO := Lib.hid hdo
          clear hR2 hg2 c1 f1 lk c2 hdo
          go_wp2_with (first
            | ((go_at_call 58; with_reducible refine (HDO.out).mono ?_); rintro e w3 ⟨rfl, ⟨tv', hR3⟩, hf3⟩)
            | go_in)
          go_ret
          exact turn_end H.out HB.out HC.out (by rw [HZ.out]; exact hsm) HG.out HR.out HG2.out hf3 hR3
      · obtain ⟨cd, hcd⟩ : ∃ cd, A.code = cd := ⟨_, rfl⟩
        rw [hcd] at hc
        have n1 : (cd == 0) = false := by simpa using hc
        have n2 : (cd != 0) = true := by simpa using hc
        have HC := Lib.hid hc
        have HCD := Lib.hid hcd
        clear hc hcd
        go_enter Try.func29, Try.ntmps29
        go_wp2_with (first
          | ((go_at_call 43; with_reducible refine (find_yes H.out s X HD.out).mono ?_); rintro e w' ⟨rfl, rfl⟩)
          | ((go_at_call 44; with_reducible refine (step1 H.out cd HCD.out).mono ?_); rintro e w1 ⟨rfl, hR, hg⟩)
          | go_in)
        go_ret
        exact op_stepped H.out hR hg HB.out HC.out rfl
  · have HS := Lib.hid hn
    clear hn
    go_enter Try.func29, Try.ntmps29
    go_wp2_with (first
      | ((go_at_call 43; with_reducible refine (find_bad H.out s HL.out HS.out).mono ?_); rintro e w' ⟨rfl, rfl⟩)
      | go_in)
    go_ret
    exact op_refused H.out HB.out (by decide) rfl
end Go.Proofs.Ytmfphnhdahaooaa
/- What is used is the sum of what the directory's files have. -/
namespace Go.Proofs.Ytmfphnhdahaooaa
open Go.RowKit Go.Maps
def szF (d : ByteArray → Option Nat) (fi : Nat → Option Fil) (s : ByteArray) : Nat :=
  match d s with
  | none => 0
  | some X =>
    match fi X with
    | none => 0
    | some f => f.xs.length
theorem sizeAt_szF (A : Fs) (s : ByteArray) : sizeAt A s = szF A.dir A.file s := rfl
theorem szF_some {d : ByteArray → Option Nat} {fi : Nat → Option Fil} {s : ByteArray} {X : Nat} {f : Fil} (h : d s = some X) (hf : fi X = some f) : szF d fi s = f.xs.length := by simp [szF, h, hf]
theorem szF_none {d : ByteArray → Option Nat} {fi : Nat → Option Fil} {s : ByteArray} (h : d s = none) : szF d fi s = 0 := by simp [szF, h]
def sumF (d : ByteArray → Option Nat) (fi : Nat → Option Fil) (l : List ByteArray) : Int := (l.map fun s => (sz (szF d fi s) : Int)).sum
structure SumD (u : Int) (d : ByteArray → Option Nat) (fi : Nat → Option Fil) : Prop where
  inj : ∀ s t X, d s = some X → d t = some X → s = t
  sum : ∃ l : List ByteArray, l.Nodup ∧ (∀ s, s ∈ l ↔ (d s).isSome = true) ∧ u = sumF d fi l
theorem SumD.nil (fi : Nat → Option Fil) : SumD 0 (fun _ => none) fi := ⟨fun s t X h => (by cases h), [], List.nodup_nil, fun s => (by simp), rfl⟩
theorem sumF_congr {d d' : ByteArray → Option Nat} {fi fi' : Nat → Option Fil} {l : List ByteArray} (h : ∀ s ∈ l, szF d fi s = szF d' fi' s) : sumF d fi l = sumF d' fi' l := by
  unfold sumF
  congr 1
  apply List.map_congr_left
  intro s hs
  rw [h s hs]
/-- The sum, one name apart. -/
theorem sumF_split {d : ByteArray → Option Nat} {fi : Nat → Option Fil} (s : ByteArray) : ∀ {l : List ByteArray}, l.Nodup → s ∈ l → sumF d fi l = (sz (szF d fi s) : Int) + sumF d fi (l.filter fun t => decide (t ≠ s)) := by
  intro l
  induction l with
  | nil => intro _ h; cases h
  | cons a l ih =>
    intro hn hs
    obtain ⟨ha, hl⟩ := List.nodup_cons.1 hn
    by_cases e : a = s
    · subst e
      have e1 : (l.filter fun t => decide (t ≠ a)) = l := List.filter_eq_self.2 fun t ht => by
        simp
        exact fun e => ha (e ▸ ht)
      rw [List.filter_cons_of_neg (by simp), e1]
      simp [sumF]
    · have hs2 : s ∈ l := by
        rcases List.mem_cons.1 hs with h | h
        · exact absurd h.symm e
        · exact h
      rw [List.filter_cons_of_pos (by simpa using e)]
      have h := ih hl hs2
      unfold sumF at h ⊢
      simp only [List.map_cons, List.sum_cons]
      omega
theorem filter_nodup {l : List ByteArray} (p : ByteArray → Bool) (h : l.Nodup) : (l.filter p).Nodup := h.sublist (List.filter_sublist)
variable {u : Int} {d : ByteArray → Option Nat} {fi : Nat → Option Fil}
/-- A name comes, with a file that was none. -/
theorem SumD.new (h : SumD u d fi) {s : ByteArray} {X : Nat} {f : Fil} (hd : d s = none) (hX : fi X = none) (hf : ∀ t Y, d t = some Y → (fi Y).isSome = true) {U : Int} (hU : U = u + (sz f.xs.length : Int)) : SumD U (upN d s (some X)) (updF fi X f) := by
  have hne : ∀ t Y, d t = some Y → Y ≠ X := fun t Y ht e => by
    have := hf t Y ht
    rw [e, hX] at this
    cases this
  obtain ⟨inj, l, hn, hm, hs⟩ := h
  have hsl : s ∉ l := fun hc => by
    have := (hm s).1 hc
    rw [hd] at this
    cases this
  have hlt : ∀ t ∈ l, t ≠ s := fun t ht e => hsl (e ▸ ht)
  refine ⟨fun a b Y ha hb => ?_, s :: l, List.nodup_cons.2 ⟨hsl, hn⟩, fun t => ?_, ?_⟩
  · unfold upN at ha hb
    split at ha <;> split at hb
    · rename_i e1 e2; rw [e1, e2]
    · exact absurd (Option.some.inj ha).symm (hne _ _ hb)
    · exact absurd (Option.some.inj hb).symm (hne _ _ ha)
    · exact inj _ _ _ ha hb
  · unfold upN
    by_cases e : t = s
    · simp [e]
    · simp [e, hm]
  · rw [hU, hs]
    have e1 : sumF (upN d s (some X)) (updF fi X f) l = sumF d fi l := sumF_congr fun t ht => by
      have e := hlt t ht
      unfold szF upN
      rw [if_neg e]
      cases hg : d t with
      | none => rfl
      | some Y =>
        simp only [updF]
        rw [if_neg (hne t Y hg)]
    have e2 : szF (upN d s (some X)) (updF fi X f) s = f.xs.length := szF_some (X := X) (by simp [upN]) (by simp [updF])
    show sumF d fi l + _ = sumF (upN d s (some X)) (updF fi X f) (s :: l)
    have e3 : sumF (upN d s (some X)) (updF fi X f) (s :: l) = (sz (szF (upN d s (some X)) (updF fi X f) s) : Int) + sumF (upN d s (some X)) (updF fi X f) l := by simp [sumF]
    rw [e3, e1, e2]
    omega
/-- A file has other bytes. -/
theorem SumD.write (h : SumD u d fi) {s : ByteArray} {X : Nat} {f f' : Fil} (hd : d s = some X) (hX : fi X = some f) {U : Int} (hU : U = u - (sz f.xs.length : Int) + (sz f'.xs.length : Int)) : SumD U d (updF fi X f') := by
  obtain ⟨inj, l, hn, hm, hs⟩ := h
  have hsl : s ∈ l := (hm s).2 (by rw [hd]; rfl)
  refine ⟨inj, l, hn, hm, ?_⟩
  rw [hU, hs, sumF_split s hn hsl, sumF_split s hn hsl]
  have e1 : sumF d (updF fi X f') (l.filter fun t => decide (t ≠ s)) = sumF d fi (l.filter fun t => decide (t ≠ s)) := sumF_congr fun t ht => by
    have hts : t ≠ s := by simpa using (List.mem_filter.1 ht).2
    unfold szF
    cases hg : d t with
    | none => rfl
    | some Y =>
      simp only [updF]
      rw [if_neg (fun e : Y = X => hts (inj t s X (by rw [hg, e]) hd))]
  rw [e1, szF_some hd hX, szF_some (fi := updF fi X f') (f := f') hd (by simp [updF])]
  omega
/-- A name goes. -/
theorem SumD.gone (h : SumD u d fi) (s : ByteArray) {U : Int} (hU : U = u - (sz (szF d fi s) : Int)) : SumD U (upN d s none) fi := by
  obtain ⟨inj, l, hn, hm, hs⟩ := h
  have e1 : sumF (upN d s none) fi (l.filter fun t => decide (t ≠ s)) = sumF d fi (l.filter fun t => decide (t ≠ s)) := sumF_congr fun t ht => by
    have hts : t ≠ s := by simpa using (List.mem_filter.1 ht).2
    unfold szF upN
    rw [if_neg hts]
  refine ⟨fun a b Y ha hb => ?_, l.filter fun t => decide (t ≠ s), filter_nodup _ hn, fun t => ?_, ?_⟩
  · unfold upN at ha hb
    split at ha
    · cases ha
    · split at hb
      · cases hb
      · exact inj _ _ _ ha hb
  · rw [List.mem_filter, hm]
    unfold upN
    by_cases e : t = s
    · simp [e]
    · simp [e]
  · rw [hU, hs, e1]
    cases hg : d s with
    | none =>
      have hsl : s ∉ l := fun hc => by
        have := (hm s).1 hc
        rw [hg] at this
        cases this
      have e2 : (l.filter fun t => decide (t ≠ s)) = l := List.filter_eq_self.2 fun t ht => by
        simp
        exact fun e => hsl (e ▸ ht)
      rw [e2, szF_none hg]
      simp [sz]
    | some X =>
      rw [sumF_split s hn ((hm s).2 (by rw [hg]; rfl))]
      omega
/-- A name that is there no more gives its file to another one. -/
theorem SumD.given (h : SumD u d fi) {s t : ByteArray} {X : Nat} (hs : d s = some X) (ht : d t = none) : SumD u (upN (upN d s none) t (some X)) fi := by
  obtain ⟨inj, l, hn, hm, hu⟩ := h
  have hst : s ≠ t := fun e => by rw [e, ht] at hs; cases hs
  have htl : t ∉ l := fun hc => by
    have := (hm t).1 hc
    rw [ht] at this
    cases this
  have hsl : s ∈ l := (hm s).2 (by rw [hs]; rfl)
  refine ⟨fun a b Y ha hb => ?_, t :: (l.filter fun x => decide (x ≠ s)), List.nodup_cons.2 ⟨fun hc => htl (List.mem_filter.1 hc).1, filter_nodup _ hn⟩, fun x => ?_, ?_⟩
  · have key : ∀ a, upN (upN d s none) t (some X) a = some Y → (a = t ∧ Y = X) ∨ (a ≠ s ∧ a ≠ t ∧ d a = some Y) := by
      intro a ha
      unfold upN at ha
      split at ha
      · rename_i e; exact .inl ⟨e, (Option.some.inj ha).symm⟩
      · split at ha
        · cases ha
        · rename_i e1 e2; exact .inr ⟨e2, e1, ha⟩
    rcases key a ha with ⟨e1, e2⟩ | ⟨n1, n2, g1⟩ <;> rcases key b hb with ⟨f1, f2⟩ | ⟨m1, m2, g2⟩
    · rw [e1, f1]
    · subst e2; exact absurd (inj _ _ _ g2 hs) m1
    · subst f2; exact absurd (inj _ _ _ g1 hs) n1
    · exact inj _ _ _ g1 g2
  · rw [List.mem_cons, List.mem_filter, hm]
    unfold upN
    by_cases e : x = t
    · simp [e]
    · by_cases e2 : x = s
      · simp [e2, hst]
      · simp [e, e2]
  · have e1 : sumF (upN (upN d s none) t (some X)) fi (l.filter fun x => decide (x ≠ s)) = sumF d fi (l.filter fun x => decide (x ≠ s)) := sumF_congr fun x hx => by
      obtain ⟨hx1, hx2⟩ := List.mem_filter.1 hx
      have n1 : x ≠ s := by simpa using hx2
      have n2 : x ≠ t := fun e => htl (e ▸ hx1)
      unfold szF upN
      rw [if_neg n2, if_neg n1]
    have e2 : szF (upN (upN d s none) t (some X)) fi t = szF d fi s := by
      unfold szF
      rw [hs]
      simp [upN]
    have e3 : sumF (upN (upN d s none) t (some X)) fi (t :: (l.filter fun x => decide (x ≠ s))) = (sz (szF (upN (upN d s none) t (some X)) fi t) : Int) + sumF (upN (upN d s none) t (some X)) fi (l.filter fun x => decide (x ≠ s)) := by simp [sumF]
    rw [e3, e1, e2, hu, sumF_split s hn hsl]
end Go.Proofs.Ytmfphnhdahaooaa
