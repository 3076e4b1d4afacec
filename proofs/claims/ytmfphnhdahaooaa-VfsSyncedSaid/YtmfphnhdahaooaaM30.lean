/- The texts Kp, Kq, Kr, Ks, Kt, one behind the other. -/
import Derived.Test.YtmfphnhdahaooaaM29
import Derived.Outline
set_option linter.unusedSimpArgs false
set_option linter.unusedVariables false
/- The document's own store: what a crash leaves of a file. -/
namespace Go.Proofs.Ytmfphnhdahaooaa
open Go.RowKit Go.Maps
set_option linter.unusedSimpArgs false
set_option linter.unusedVariables false
theorem size_pushes (l : List Int) (r : ByteArray) : (l.foldl (fun r n => r.push (UInt8.ofNat n.toNat)) r).size = r.size + l.length := by
  induction l generalizing r with
  | nil => rfl
  | cons a l ih => rw [List.foldl_cons, ih, ByteArray.size_push, List.length_cons]; omega
theorem text_zeros (w : World) (k : Nat) : ∃ z : ByteArray, z.size = k ∧ (convert 45 9 (.slice (some ⟨w.heap.size, 0, none⟩) k k)).run Try.prog (w.alloc (.cells (List.replicate k zb).toArray 5)) = .ok (.string z) (w.alloc (.cells (List.replicate k zb).toArray 5)) := by
  refine ⟨(List.replicate k (0 : Int)).foldl (fun r n => r.push (UInt8.ofNat n.toNat)) ByteArray.empty, ?_, ?_⟩
  · rw [size_pushes, List.length_replicate]
    exact Nat.zero_add k
  · rw [run_convert_bytes_string _ 45 9 5 _ _ _ Try.underlying45 Try.underlying5 Try.underlying9]
    have hl : (loadCells ⟨w.heap.size, 0, none⟩ k).run Try.prog (w.alloc (.cells (List.replicate k zb).toArray 5)) = .ok ((List.replicate k (0 : Int)).map (Value.int .u8)).toArray (w.alloc (.cells (List.replicate k zb).toArray 5)) := by
      have h := run_loadCells_list (P := Try.prog) (w := w.alloc (.cells (List.replicate k zb).toArray 5)) ⟨w.heap.size, 0, none⟩ (List.replicate k zb) fun j v hj => by
        rw [show (⟨w.heap.size, 0, none⟩ : Addr).add j = ⟨w.heap.size, j, none⟩ by unfold Addr.add; by_cases h0 : j = 0 <;> simp [h0]]
        exact hb_at (hb_new w _) j (by rw [List.getElem?_toArray]; exact hj)
      rw [List.length_replicate] at h
      rw [List.map_replicate]
      exact h
    rw [run_bytesToString _ ⟨w.heap.size, 0, none⟩ k k (List.replicate k (0 : Int)) hl]
def RLeftP (w : World) (e : Ending) (w' : World) : Prop := (∃ out : ByteArray, e = .returned (.string out) ∧ out.size ≤ 1048576) ∧ Below w.heap.size w w'
set_option maxRecDepth 100000 in
set_option maxHeartbeats 4000000 in
theorem rleft_any {w : World} {ao : Option Addr} {zs : List Int} {c : Nat} (h : RowI w ao zs) (hzl : zs.length ≤ maxLen) (now lasts name : ByteArray) (hn : now.size ≤ 1048576) (hl : lasts.size ≤ 1048576) (long : Bool) :
    Calls Try.prog 67 #[.agg #[.string now, .string lasts], .agg #[.string name, .slice ao zs.length c, .bool long]] w (RLeftP w) := by
  have hbX : Below w.heap.size w (w.alloc (.cells #[.string now, .string lasts] 108)) := below_alloc w _
  have hxX := hb_new w (.cells #[.string now, .string lasts] 108)
  obtain ⟨w1, hw1⟩ : ∃ w1, w1 = w.alloc (.cells #[.string now, .string lasts] 108) := ⟨_, rfl⟩
  have hbS : Below w1.heap.size w1 (w1.alloc (.cells #[.string name, .slice ao zs.length c, .bool long] 58)) := below_alloc w1 _
  have hxS := hb_new w1 (.cells #[.string name, .slice ao zs.length c, .bool long] 58)
  have hxX2 := hb_below (hw1 ▸ hxX) hbS (hb_lt (hw1 ▸ hxX))
  obtain ⟨X, hX⟩ : ∃ X, X = w.heap.size := ⟨_, rfl⟩
  obtain ⟨S, hS⟩ : ∃ S, S = X + 1 := ⟨_, rfl⟩
  obtain ⟨w2, hw2⟩ : ∃ w2, w2 = w1.alloc (.cells #[.string name, .slice ao zs.length c, .bool long] 58) := ⟨_, rfl⟩
  have HB2 : RowKit.Hid (Below w.heap.size w w2) := Lib.hid (by rw [hw2]; exact (hw1 ▸ hbX).trans (hbS.mono (hw1 ▸ hbX).size))
  have HI : RowKit.Hid (RowI w2 ao zs) := Lib.hid (h.below HB2.out (Nat.le_refl _))
  have HX : RowKit.Hid (w2.heap[X]? = some (.cells #[.string now, .string lasts] 108 (0, 0))) := Lib.hid (by rw [hw2, hX]; exact hxX2)
  have HS : RowKit.Hid (w2.heap[S]? = some (.cells #[.string name, .slice ao zs.length c, .bool long] 58 (0, 0))) := Lib.hid (by
    rw [hw2, hS]
    have e : X + 1 = w1.heap.size := by rw [hw1, hX]; exact (Array.size_push _).symm
    rw [e]; exact hxS)
  have HW1 := Lib.hid hw1
  have HW2 := Lib.hid hw2
  have HZL := Lib.hid hzl
  have x0 : w2.cell? ⟨X, 0, none⟩ = some (.string now) := hb_at HX.out 0 rfl
  have x1 : w2.cell? ⟨X, 1, none⟩ = some (.string lasts) := hb_at HX.out 1 rfl
  have s2 : w2.cell? ⟨S, 2, none⟩ = some (.bool long) := hb_at HS.out 2 rfl
  clear hw1 hw2 h hzl hbX hxX hbS hxS hxX2
  go_enter Try.func67, Try.ntmps67
  go_upto_region 1 with fail
  rw [← HW1.out, ← HW2.out, ← hX, ← hS]
  have HXS := Lib.hid (And.intro hX hS)
  clear hX hS
  go_upto_if 17 with (fail)
  go_cut [5] (fun v wx => (∃ n : Nat, v = .int .i64 n ∧ n ≤ 1048576) ∧ wx = w2)
  case first =>
    cases long
    all_goals
      go_wp2_with fail
      go_meet
      exact ⟨⟨_, rfl, by omega⟩, rfl⟩
  case rest =>
  obtain ⟨⟨n, rfl, hnn⟩, hwc⟩ := hcut
  have hwc2 : wc = w2 := hwc
  clear hwc
  subst hwc2
  go_upto_region 6 with fail
  go_loopw [6, 7] (fun o i wr => ∃ q : Nat, i = .int .i64 q ∧ q ≤ (n + 511) / 512 ∧ (∃ out : ByteArray, o = .string out ∧ out.size ≤ n ∧ out.size ≤ 512 * q) ∧ RowKit.Hid (Below wc.heap.size wc wr)) (fun _ i _ => (n + 511) / 512 - (intOf i).toNat)
  case atStart => exact ⟨0, rfl, Nat.zero_le _, ⟨_, rfl, Nat.zero_le _, Nat.zero_le _⟩, Lib.hid (Below.refl _ _)⟩
  case round =>
    obtain ⟨q, rfl, hq, ⟨out, rfl, ho1, ho2⟩, HB⟩ := hrel
    have hX3 := hb_below HX.out HB.out (hb_lt HX.out)
    have hS3 := hb_below HS.out HB.out (hb_lt HS.out)
    have y0 : wr.cell? ⟨X, 0, none⟩ = some (.string now) := hb_at hX3 0 rfl
    have y1 : wr.cell? ⟨X, 1, none⟩ = some (.string lasts) := hb_at hX3 1 rfl
    have t1 : wr.cell? ⟨S, 1, none⟩ = some (.slice ao zs.length c) := hb_at hS3 1 rfl
    have HI3 : RowKit.Hid (RowI wr ao zs) := Lib.hid (HI.out.below HB.out (Nat.le_refl _))
    clear hX3 hS3 x0 x1 s2
    have esec : ((((n + 511) / 512 : Nat)) : Int) = ((n : Int) + 511) / 512 := by omega
    by_cases hlt : q < (n + 511) / 512
    rotate_left
    · go_wp2_with (first
        | (go_at_call 63; ((with_reducible refine (rsectors_any n (by omega) _).mono ?_); rintro e w' ⟨rfl, rfl⟩))
        | go_in)
      go_ret
      exact ⟨⟨_, rfl, by omega⟩, HB2.out.trans (HB.out.mono HB2.out.size)⟩
    · go_upto_region 8 with (first
        | (go_at_call 63; ((with_reducible refine (rsectors_any n (by omega) _).mono ?_); rintro e w' ⟨rfl, rfl⟩))
        | go_in)
      go_upto_if 32 with (fail)
      go_cut [8] (fun v wx => (∃ e : Nat, v = .int .i64 e ∧ 512 * q < e ∧ e ≤ 512 * q + 512 ∧ e ≤ n) ∧ wx = wr)
      case first =>
        by_cases he : 512 * q + 512 > n
        · go_wp2_with fail
          go_meet
          exact ⟨⟨n, rfl, by omega, by omega, by omega⟩, rfl⟩
        · go_wp2_with fail
          go_meet
          exact ⟨⟨512 * q + 512, by go_num, by omega, by omega, by omega⟩, rfl⟩
      case rest =>
      obtain ⟨⟨e, rfl, he1, he2, he3⟩, hwc⟩ := hcut
      have hwc3 : _ = wr := hwc
      clear hwc
      subst hwc3
      go_upto_region 13 with fail
      go_cut [47] (fun v wx => (∃ z : Bool, v = .bool z) ∧ wx = wc)
      case first =>
        go_wp2_with (first
          | (go_at_call 65; ((with_reducible refine (rin_any HI3.out HZL.out _).mono ?_); rintro e w' ⟨⟨z, rfl⟩, rfl⟩; cases z))
          | go_in)
        all_goals
          go_meet
          exact ⟨⟨_, rfl⟩, rfl⟩
      case rest =>
      obtain ⟨⟨z, rfl⟩, hwc⟩ := hcut
      have hwc : _ = _ := hwc
      subst hwc
      go_upto_if 47 with (fail)
      go_cut [10] (fun v wx => (∃ src : ByteArray, v = .string src ∧ src.size ≤ 1048576) ∧ wx = wc)
      case first =>
        cases z
        all_goals
          go_wp2_with fail
          go_meet
          exact ⟨⟨_, rfl, by assumption⟩, rfl⟩
      case rest =>
      obtain ⟨⟨src, rfl, hsrc⟩, hwc⟩ := hcut
      have hwc : _ = _ := hwc
      subst hwc
      go_upto_if 54 with (fail)
      go_cut [9] (fun v wx => (∃ part : ByteArray, v = .string part ∧ part.size + 512 * q ≤ e) ∧ wx = wc)
      case first =>
        by_cases h1 : src.size > 512 * q
        · by_cases h2 : e > src.size
          · go_wp2_with fail
            go_meet
            refine ⟨⟨_, rfl, ?_⟩, rfl⟩
            simp only [ByteArray.size_extract]
            omega
          · go_wp2_with fail
            go_meet
            refine ⟨⟨_, rfl, ?_⟩, rfl⟩
            simp only [ByteArray.size_extract]
            omega
        · go_wp2_with fail
          go_meet
          exact ⟨⟨_, rfl, by show 0 + 512 * q ≤ e; omega⟩, rfl⟩
      case rest =>
      obtain ⟨⟨part, rfl, hpart⟩, hwc⟩ := hcut
      have hwc : _ = _ := hwc
      subst hwc
      go_upto_region 20 with fail
      go_cut [84] (fun v wx => (∃ z : Bool, v = .bool z ∧ (z = true → part.size + 512 * q < e ∧ 512 * q + part.size < lasts.size)) ∧ wx = wc)
      case first =>
        by_cases h1 : part.size + 512 * q < e
        · have h1i : (part.size : Int) < (e : Int) - 512 * (q : Int) := by omega
          by_cases h2 : 512 * q + part.size < lasts.size
          · have h2i : 512 * (q : Int) + (part.size : Int) < (lasts.size : Int) := by omega
            go_wp2_with fail
            go_meet
            exact ⟨⟨_, rfl, fun _ => ⟨h1, h2⟩⟩, rfl⟩
          · have h2i : ¬ 512 * (q : Int) + (part.size : Int) < (lasts.size : Int) := by omega
            go_wp2_with fail
            go_meet
            exact ⟨⟨_, rfl, fun h => by simp at h⟩, rfl⟩
        · have h1i : ¬ (part.size : Int) < (e : Int) - 512 * (q : Int) := by omega
          go_wp2_with fail
          go_meet
          exact ⟨⟨_, rfl, fun h => by simp at h⟩, rfl⟩
      case rest =>
      obtain ⟨⟨z, rfl, hz⟩, hwc⟩ := hcut
      have hwc : _ = _ := hwc
      subst hwc
      go_upto_if 84 with (fail)
      go_cut [9] (fun v wx => (∃ part : ByteArray, v = .string part ∧ part.size + 512 * q ≤ e) ∧ wx = wc)
      case first =>
        cases z
        · go_wp2_with fail
          go_meet
          exact ⟨⟨_, rfl, hpart⟩, rfl⟩
        · obtain ⟨h1, h2⟩ := hz rfl
          clear hz
          by_cases h3 : e > lasts.size
          · go_wp2_with fail
            go_meet
            refine ⟨⟨_, rfl, ?_⟩, rfl⟩
            simp only [ByteArray.size_append, ByteArray.size_extract]
            omega
          · go_wp2_with fail
            go_meet
            refine ⟨⟨_, rfl, ?_⟩, rfl⟩
            simp only [ByteArray.size_append, ByteArray.size_extract]
            omega
      case rest =>
      obtain ⟨⟨part2, rfl, hpart2⟩, hwc⟩ := hcut
      have hwc : _ = _ := hwc
      subst hwc
      clear hpart hz hsrc
      obtain ⟨d, hd⟩ : ∃ d : Nat, (e : Int) - 512 * (q : Int) - (part2.size : Int) = (d : Int) := ⟨e - 512 * q - part2.size, by omega⟩
      have hmk := fun W => make_bytes2 d W (by omega)
      obtain ⟨zs2, hzs, hcv⟩ := text_zeros wc d
      have hba : Below wc.heap.size wc (wc.alloc (.cells (List.replicate d zb).toArray 5)) := below_alloc wc _
      rw [List.toArray_replicate] at hcv hba
      have HBA := Lib.hid hba
      clear hba
      have hos : out.size + part2.size ≤ 1048576 := by omega
      have hzs2 : out.size + part2.size + zs2.size ≤ 1048576 := by omega
      go_upto_region 25 with fail
      go_wp2_with fail
      refine ⟨⟨q + 1, by go_num, by omega, ⟨_, rfl, ?_, ?_⟩, Lib.hid (HB.out.trans (HBA.out.mono HB.out.size))⟩, ?_⟩
      · simp only [ByteArray.size_append]; omega
      · simp only [ByteArray.size_append]; omega
      · simp [intOf]; omega
end Go.Proofs.Ytmfphnhdahaooaa
/- The document's own store: pieces of Crash. -/
namespace Go.Proofs.Ytmfphnhdahaooaa
open Go.RowKit Go.Maps
theorem append_en (W : World) (base : Nat) (v : Value) (es : List En) (e : En) (hown : RowE W base v es) (g c : Nat) (hg : W.heap[g]? = some (.cells #[.string e.name, .int .i64 (e.f : Nat)] 115 (0, 0))) (hn : es.length ≤ 100000) (hbase : base ≤ W.heap.size) :
    ∃ v' W', (Builtin.append_ #[49, 49] 49 #[v, .slice (some ⟨g, 0, none⟩) 1 c]).run Try.prog W = .ok v' W' ∧ RowE W' base v' (es ++ [e]) ∧ W.grownBy W' v.ownBlock := by
  have hr : Ents W (some ⟨g, 0, none⟩) [e] := fun i x hx => by
    cases i with
    | zero =>
      obtain rfl : e = x := by simpa using hx
      exact ⟨g, 0, rfl, hb_at hg 0 rfl, hb_at hg 1 rfl⟩
    | succ i => simp at hx
  exact append_e W base v (some ⟨g, 0, none⟩) c es [e] hown hr (fun a ha => by cases ha; rfl) (by simp; omega) hbase
theorem Below.ofRFrm {B : Nat} {w w' : World} (h : RFrm B w w') : Below B w w' := ⟨h.rest.1, h.rest.2.1, h.rest.2.2, h.size, h.below⟩
section
variable {w w' : World} {B r k : Nat} {cap : Int} {fv dv lv tv : Value} {fs : List RF} {ds ls : List En} {ts : List RT}
/-- A directory that is made new, by appends, one name behind the other. -/
theorem Ref.named {w5 : World} {v5 : Value} {x : En} (h : Ref w B r k cap fv dv (.slice none 0 0) tv fs ds [] ts) (hg : w.grownBy w5 dv.ownBlock) (ho : RowE w5 B v5 (ds ++ [x])) (hB : B ≤ w.heap.size) (hx : x.f < fs.length) (hn : ds.length + 1 ≤ k) :
    Ref (w5.setCell ⟨r, 2, none⟩ v5) B r k cap fv v5 (.slice none 0 0) tv fs (ds ++ [x]) [] ts ∧ RFrm B w (w5.setCell ⟨r, 2, none⟩ v5) := by
  obtain ⟨fa, pw, off, h0⟩ := h.store
  have hne := own_ne h.dir h0 (fun cs f e2 => by simp at e2)
  have h5 := hb_grown h0 hg hne
  have hrow : ∀ {v : Value} {e : TypeId} {size n : Nat} {xs : List Value}, e ≠ 52 → e ≠ 115 → w.ownsRow B e size v n xs → (w5.setCell ⟨r, 2, none⟩ v5).ownsRow B e size v n xs := fun he he2 ho => by
    refine own_kept ho fun g x hg2 hx => ?_
    obtain ⟨cur, fr, hb⟩ := own_tag ho g hg2
    rw [hb] at hx
    cases hx
    have h1 := own_ne h.dir hb (fun cs f e2 => he2 (by simp at e2; exact e2.2.1))
    exact hb_set_other (hb_grown hb hg h1) _ (fun e3 => by
      have e4 : g = r := e3
      rw [e4, h0] at hb
      simp at hb
      exact he hb.2.1.symm)
  have hrow5 : RowE (w5.setCell ⟨r, 2, none⟩ v5) B v5 (ds ++ [x]) := own_kept ho fun g x hg2 hx => by
    obtain ⟨cur, fr, hb⟩ := own_tag ho g hg2
    rw [hb] at hx
    cases hx
    exact hb_set_other hb _ (fun e3 => by
      have e4 : g = r := e3
      rw [e4, h5] at hb
      simp at hb)
  have hs := hb_set_same h5 2 v5
  have hf1 : RFrm B w w5 := by
    cases e : dv.ownBlock with
    | none =>
      rw [e] at hg
      exact RFrm.ofBelow ⟨hg.os, hg.tape, hg.output, hg.size, fun b hb => hg.block b hb (by simp)⟩ hB
    | some g =>
      obtain ⟨cur, fr, hb⟩ := own_tag h.dir g e
      rw [e] at hg
      exact RFrm.ofGrown hg hb (.inr (.inr (.inr rfl))) (h.dir.lt g e).1
  refine ⟨⟨⟨fa, pw, off, hs⟩, hrow (by decide) (by decide) h.files, hrow5, World.ownsRow_nil _ _ _ _, hrow (by decide) (by decide) h.turns, h.new, ⟨fun e he => ?_, h.fit.2.1, h.fit.2.2⟩, h.small, ⟨h.few.1, by rw [List.length_append]; exact hn, h.few.2.2.1, h.few.2.2.2⟩⟩, hf1.trans (RFrm.ofGrown (grown_set w5 ⟨r, 2, none⟩ v5) h5 (.inl rfl) h.new)⟩
  rcases List.mem_append.1 he with he | he
  · exact h.fit.1 e he
  · rw [List.mem_singleton.1 he]; exact hx
/-- The last directory, laid new. -/
theorem Ref.relast {w2 : World} {v2 : Value} {es : List En} (h : Ref w B r k cap fv dv lv tv fs ds ls ts) (hb : Below w.heap.size w w2) (hB : B ≤ w.heap.size) (hl : RowE w2 B v2 es) (hn : es.length + ts.length ≤ k) (hm : ∀ x ∈ es, x.f < fs.length) :
    Ref (w2.setCell ⟨r, 3, none⟩ v2) B r k cap fv dv v2 tv fs ds es ts ∧ RFrm B w (w2.setCell ⟨r, 3, none⟩ v2) := by
  have h2 := h.kept (w' := w2) fun _ _ _ _ _ hx => hb_below hx hb (hb_lt hx)
  obtain ⟨fa, pw, off, h0⟩ := h2.store
  have hg := grown_set w2 ⟨r, 3, none⟩ v2
  have hs := hb_set_same h0 3 v2
  have hrow : ∀ {v : Value} {e : TypeId} {size n : Nat} {xs : List Value}, e ≠ 52 → w2.ownsRow B e size v n xs → (w2.setCell ⟨r, 3, none⟩ v2).ownsRow B e size v n xs := fun he ho =>
    own_kept ho fun g2 x hg2 hx => hb_grown hx hg (by rw [← hg2]; exact Ne.symm (own_ne ho h0 (fun cs f e2 => he (by simp at e2; exact e2.2.1.symm))))
  exact ⟨⟨⟨fa, pw, off, hs⟩, hrow (by decide) h2.files, hrow (by decide) h2.dir, hrow (by decide) hl, hrow (by decide) h2.turns, h.new, ⟨h.fit.1, hm, h.fit.2.2⟩, h.small, ⟨h.few.1, h.few.2.1, by omega, hn⟩⟩,
    (RFrm.ofBelow hb hB).trans (RFrm.ofGrown hg h0 (.inl rfl) h.new)⟩
/-- A store that was made new. -/
theorem Ref.fresh (w : World) (B k : Nat) (cap : Int) (hB : B ≤ w.heap.size) : Ref (w.alloc (.cells (rsC cap (.slice none 0 0) (.slice none 0 0) (.slice none 0 0) (.slice none 0 0) (-1) (-1) false) 52)) B w.heap.size k cap (.slice none 0 0) (.slice none 0 0) (.slice none 0 0) (.slice none 0 0) [] [] [] [] :=
  ⟨⟨_, _, _, hb_new w _⟩, World.ownsRow_nil _ _ _ _, World.ownsRow_nil _ _ _ _, World.ownsRow_nil _ _ _ _, World.ownsRow_nil _ _ _ _, hB, ⟨fun e he => (by cases he), fun e he => (by cases he), fun e he => (by cases he)⟩, fun f hf => (by cases hf), ⟨Nat.zero_le _, Nat.zero_le _, Nat.zero_le _, Nat.zero_le _⟩⟩
end
end Go.Proofs.Ytmfphnhdahaooaa
/- The document's own store: Crash. -/
namespace Go.Proofs.Ytmfphnhdahaooaa
open Go.RowKit Go.Maps
set_option linter.unusedSimpArgs false
set_option linter.unusedVariables false
def RCrashP (k : Nat) (cap : Int) (w : World) (e : Ending) (w' : World) : Prop := ∃ R fv dv lv fs ds ls, e = .returned (.pointer (some ⟨R, 0, none⟩)) ∧ (∃ B2, w.heap.size ≤ B2 ∧ B2 ≤ w'.heap.size ∧ Ref w' B2 R k cap fv dv lv (.slice none 0 0) fs ds ls []) ∧ Below w.heap.size w w'
theorem below_set {w0 w : World} {S j : Nat} {v : Value} (h : Below S w0 w) (hS : S < w.heap.size) : Below S w0 (w.setCell ⟨S, j, none⟩ v) :=
  have hg := grown_set w ⟨S, j, none⟩ v
  h.trans ⟨hg.os, hg.tape, hg.output, hg.size, fun b hb => hg.block b (by omega) (by simp; omega)⟩
section
variable {w w' : World} {B r k : Nat} {cap : Int} {fv dv lv tv : Value} {fs : List RF} {ds ls : List En} {ts : List RT}
set_option maxRecDepth 100000 in
set_option maxHeartbeats 4000000 in
theorem rcrash_any (h : Ref w B r k cap fv dv lv tv fs ds ls ts) (hk : k ≤ 30000) (hB : B ≤ w.heap.size) {tao : Option Addr} {zs : List Int} {tc : Nat} (hz : RowI w tao zs) (hzl : zs.length ≤ maxLen) {fo : Option Addr} {fl : List Sv} {fc : Nat} (hf : RowS w fo fl) (hfl : fl.length ≤ 10000) :
    Calls Try.prog 39 #[.pointer (some ⟨r, 0, none⟩), .slice tao zs.length tc, .slice fo fl.length fc] w (RCrashP k cap w) := by
  obtain ⟨la, lc, rfl, hlc⟩ := own_sl h.lasts
  obtain ⟨ta, tc2, rfl, htc⟩ := own_sl h.turns
  obtain ⟨fa0, fc0, rfl, hfc⟩ := own_sl h.files
  obtain ⟨fa, pw, off, h0⟩ := h.store
  have HE := Lib.hid (ents_row h.lasts)
  have H := Lib.hid h
  have H0 := Lib.hid h0
  have HZ := Lib.hid hz
  have HZL := Lib.hid hzl
  have HF := Lib.hid hf
  have HK := Lib.hid hk
  have HB := Lib.hid hB
  have d3 : w.cell? ⟨r, 3, none⟩ = some (.slice la ls.length lc) := hb_at h0 3 rfl
  have d3a : ∀ o, (w.alloc o).cell? ⟨r, 3, none⟩ = some (.slice la ls.length lc) := fun o => hb_at (hb_alloc h0 o) 3 rfl
  have hba : Below w.heap.size w (w.alloc (.cells #[] 115)) := below_alloc w _
  have hsp : ∀ a, la = some a → a.spot = none := fun a ha => by
    rcases h.lasts.2 with ⟨e, _⟩ | ⟨g, _, _, e, _⟩
    · subst ha; cases e
    · subst ha; cases e; rfl
  obtain ⟨v1, w1, hr1, he1, hb1⟩ := append_e0 (w.alloc (.cells #[] 115)) w.heap.size w.heap.size la lc ls (hb_new w _) (Nat.le_refl _) (HE.out.below hba) hsp (by have := h.few.2.2.1; omega)
  have hb1 := hba.trans (hb1.mono hba.size)
  have HE1 := Lib.hid he1
  have HB1 := Lib.hid hb1
  obtain ⟨tn, htn⟩ : ∃ n, n = ts.length := ⟨_, rfl⟩
  obtain ⟨fn, hfn⟩ : ∃ n, n = fl.length := ⟨_, rfl⟩
  have HTN := Lib.hid htn
  have HFN := Lib.hid hfn
  rw [← hfn] at hfl ⊢
  have htl : tn ≤ 30000 := by have := h.few.2.2.2; omega
  clear h h0 hz hzl hf hk hB hba hb1 he1 htn hfn hsp
  go_enter Try.func39, Try.ntmps39
  go_upto_region 3 with (first
    | (at_builtin; refine wpList_append_at rfl _ _ rfl rfl rfl rfl hr1 ?_)
    | go_in)
  clear hr1 d3 d3a
  go_loopw [7, 8] (fun d i wr => ∃ q : Nat, i = .int .i64 q ∧ q ≤ tn ∧ (∃ es, RowKit.Hid (RowE wr w.heap.size d es) ∧ RowKit.Hid (es.length ≤ ls.length + q ∧ ∀ x ∈ es, x.f < fs.length)) ∧ RowKit.Hid (Below w.heap.size w wr)) (fun _ i _ => tn - (intOf i).toNat)
  case atStart => exact ⟨0, rfl, Nat.zero_le _, ⟨_, HE1, Lib.hid ⟨by omega, H.out.fit.2.1⟩⟩, HB1⟩
  case round =>
    obtain ⟨q, rfl, hq, ⟨es, HES, HEL⟩, HBW⟩ := hrel
    rename_i d
    have h4 := hb_below H0.out HBW.out (hb_lt H0.out)
    have d4 : wr.cell? ⟨r, 4, none⟩ = some (.slice ta tn tc2) := by rw [HTN.out]; exact hb_at h4 4 rfl
    have HI := Lib.hid (HZ.out.below HBW.out (Nat.le_refl _))
    by_cases hlt : q < tn
    · obtain ⟨t, ht⟩ : ∃ t, ts[q]? = some t := ⟨_, List.getElem?_eq_getElem (by rw [← HTN.out]; exact hlt)⟩
      have HR := Lib.hid (H.out.kept (w' := wr) fun _ _ _ _ _ hx => hb_below hx HBW.out (hb_lt hx))
      obtain ⟨g, rfl, _, hcell⟩ := row_at (cs := RT.cells) (fun _ => rfl) HR.out.turns ht
      have y0 : wr.cell? ⟨g, q * 4, none⟩ = some (.int .i64 (t.kind : Nat)) := hcell 0 _ rfl
      have y1 : wr.cell? ⟨g, q * 4 + 1, none⟩ = some (.string t.name) := hcell 1 _ rfl
      have y2 : wr.cell? ⟨g, q * 4 + 2, none⟩ = some (.string t.dst) := hcell 2 _ rfl
      have y3 : wr.cell? ⟨g, q * 4 + 3, none⟩ = some (.int .i64 (t.f : Nat)) := hcell 3 _ rfl
      have HTM := Lib.hid (H.out.fit.2.2 t (List.mem_of_getElem? ht))
      clear hcell ht h4
      go_wp2_with (first
        | (go_at_call 65; ((with_reducible refine (rin_any HI.out HZL.out _).mono ?_); rintro e w' ⟨⟨z, rfl⟩, rfl⟩; cases z))
        | (go_at_call 66; ((with_reducible refine (rdo_any HES.out HBW.out.size (by have := HEL.out.1; have := H.out.few.2.2.2; have := HK.out; have := HTN.out; omega) t HEL.out.2 HTM.out).mono ?_); rintro e5 w5 ⟨v5, es5, rfl, hr5, hl5, hm5, hb5⟩))
        | go_in)
      · exact ⟨⟨q + 1, by go_num, by omega, ⟨es, HES, Lib.hid ⟨by have := HEL.out.1; omega, HEL.out.2⟩⟩, HBW⟩, by simp [intOf]; omega⟩
      · exact ⟨⟨q + 1, by go_num, by omega, ⟨es5, Lib.hid hr5, Lib.hid ⟨by have := HEL.out.1; omega, hm5⟩⟩, Lib.hid (HBW.out.trans (hb5.mono HBW.out.size))⟩, by simp [intOf]; omega⟩
    · obtain rfl : q = tn := by omega
      obtain ⟨da, dc, rfl, hdc⟩ := own_sl HES.out
      have c0 : wr.cell? ⟨r, 0, none⟩ = some (.int .i64 cap) := hb_at h4 0 rfl
      have hes : es.length ≤ k := by have := HEL.out.1; have := H.out.few.2.2.2; have := HTN.out; omega
      obtain ⟨en, hen⟩ : ∃ n, n = es.length := ⟨_, rfl⟩
      rw [← hen] at hes hdc ⊢
      have HEN := Lib.hid hen
      have HD : RowKit.Hid (Ents wr da es) := Lib.hid (ents_row HES.out)
      have hek : en ≤ 30000 := by have := HK.out; omega
      have HEK := Lib.hid hes
      have HFR := Lib.hid (Ref.fresh wr wr.heap.size 0 cap (Nat.le_refl _))
      have HBF : RowKit.Hid (Below wr.heap.size wr (wr.alloc (.cells (rsC cap (.slice none 0 0) (.slice none 0 0) (.slice none 0 0) (.slice none 0 0) (-1) (-1) false) 52))) := Lib.hid (below_alloc wr _)
      unfold rsC at HFR HBF
      clear h4 hen hes hlt
      go_upto_region 9 with fail
      clear hb1 hq
      generalize hwz : wr = wz at *
      clear hwz
      generalize hR0 : wz.heap.size = R0 at *
      have HR0 := Lib.hid hR0
      clear hR0
      generalize (wz.alloc (.cells #[.int .i64 cap, .slice none 0 0, .slice none 0 0, .slice none 0 0, .slice none 0 0, .int .i64 (-1), .int .i64 (-1), .bool false] 52)) = W2 at *
      go_loopw [10] (fun i wx => ∃ q2 : Nat, i = .int .i64 q2 ∧ q2 ≤ en ∧ RowKit.Hid (∃ fv2 dv2 fs2 ds2, Ref wx R0 R0 q2 cap fv2 dv2 (.slice none 0 0) (.slice none 0 0) fs2 ds2 [] [] ∧ fs2.length = q2 ∧ ds2.length = q2) ∧ RowKit.Hid (Below R0 wz wx)) (fun i _ => en - (intOf i).toNat)
      case atStart => exact ⟨0, rfl, Nat.zero_le _, Lib.hid ⟨_, _, _, _, HFR.out, rfl, rfl⟩, HBF⟩
      case round =>
        obtain ⟨q2, rfl, hq2, HS, HBX⟩ := hrel
        generalize hwx : wr = wx at *
        clear hwx
        have HBWX : RowKit.Hid (Below w.heap.size w wx) := Lib.hid (HBW.out.trans (HBX.out.mono (by rw [← HR0.out]; exact HBW.out.size)))
        by_cases hlt2 : q2 < en
        · obtain ⟨e, he⟩ : ∃ e, es[q2]? = some e := ⟨_, List.getElem?_eq_getElem (by rw [← HEN.out]; exact hlt2)⟩
          obtain ⟨gd, offd, rfl, a0, a1⟩ := HD.out q2 e he
          have hef := HEL.out.2 e (List.mem_of_getElem? he)
          obtain ⟨f, hff⟩ : ∃ f, fs[e.f]? = some f := ⟨_, List.getElem?_eq_getElem hef⟩
          have HSM := Lib.hid (H.out.small f (List.mem_of_getElem? hff))
          obtain ⟨gf, rfl, _, hcell⟩ := row_at (cs := RF.cells) (fun _ => rfl) H.out.files hff
          have f0 : w.cell? ⟨gf, e.f * 2, none⟩ = some (.string f.now) := hcell 0 _ rfl
          have f1 : w.cell? ⟨gf, e.f * 2 + 1, none⟩ = some (.string f.lasts) := hcell 1 _ rfl
          have r1 : w.cell? ⟨r, 1, none⟩ = some (.slice (some ⟨gf, 0, none⟩) fs.length fc0) := hb_at H0.out 1 rfl
          have HA : RowKit.Hid (∀ w', Below R0 wz w' → w'.cell? ⟨gd, offd + q2 * 2, none⟩ = some (.string e.name) ∧ w'.cell? ⟨gd, offd + q2 * 2 + 1, none⟩ = some (.int .i64 (e.f : Nat)) ∧ w'.cell? ⟨r, 1, none⟩ = some (.slice (some ⟨gf, 0, none⟩) fs.length fc0) ∧ w'.cell? ⟨gf, e.f * 2, none⟩ = some (.string f.now) ∧ w'.cell? ⟨gf, e.f * 2 + 1, none⟩ = some (.string f.lasts)) := Lib.hid fun w' hb => by
            have hb2 := HBW.out.trans (hb.mono (by rw [← HR0.out]; exact HBW.out.size))
            refine ⟨?_, ?_, ?_, ?_, ?_⟩
            · rw [hb.cell (p := ⟨gd, offd + q2 * 2, none⟩) (by rw [← HR0.out]; exact World.block_lt_of_cell? wz _ a0)]; exact a0
            · rw [hb.cell (p := ⟨gd, offd + q2 * 2 + 1, none⟩) (by rw [← HR0.out]; exact World.block_lt_of_cell? wz _ a1)]; exact a1
            · rw [hb2.cell (p := ⟨r, 1, none⟩) (World.block_lt_of_cell? w _ r1)]; exact r1
            · rw [hb2.cell (p := ⟨gf, e.f * 2, none⟩) (World.block_lt_of_cell? w _ f0)]; exact f0
            · rw [hb2.cell (p := ⟨gf, e.f * 2 + 1, none⟩) (World.block_lt_of_cell? w _ f1)]; exact f1
          have HEF := Lib.hid hef
          clear a0 a1 f0 f1 r1 hcell he hff hef c0 d4
          have HSB := Lib.hid (hb_new wx (.cells #[.string ⟨#[]⟩, .slice none 0 0, .bool false] 58))
          have HBB := Lib.hid (below_alloc wx (.cells #[.string ⟨#[]⟩, .slice none 0 0, .bool false] 58))
          go_upto_region 13 with fail
          generalize hS0 : wx.heap.size = S at *
          have HS0 := Lib.hid hS0
          clear hS0
          generalize (wx.alloc (.cells #[.string ⟨#[]⟩, .slice none 0 0, .bool false] 58)) = W3 at *
          go_loopw [12] (fun i wy => ∃ p : Int, i = .int .i64 p ∧ -1 ≤ p ∧ p < fn ∧ RowKit.Hid (∃ x : Sv, wy.heap[S]? = some (.cells #[.string x.name, .slice x.ao x.zs.length x.c, .bool x.long] 58 (0, 0)) ∧ RowI wx x.ao x.zs ∧ x.zs.length ≤ manyZ) ∧ RowKit.Hid (Below S wx wy)) (fun i _ => (intOf i + 1).toNat)
          case atStart => exact ⟨_, rfl, by omega, by omega, Lib.hid ⟨⟨⟨#[]⟩, none, 0, [], false⟩, HSB.out, fun i z h => by simp at h, Nat.zero_le _⟩, HBB⟩
          case round =>
            obtain ⟨p, rfl, hp1, hp2, HSX, HBY⟩ := hrel
            generalize hwy : wr = wy at *
            clear hwy
            have HBY2 : RowKit.Hid (Below R0 wz wy) := Lib.hid (HBX.out.trans (HBY.out.mono (by rw [← HS0.out, ← HR0.out]; exact HBX.out.size)))
            have HBYW : RowKit.Hid (Below w.heap.size w wy) := Lib.hid (HBWX.out.trans (HBY.out.mono (by rw [← HS0.out]; exact HBWX.out.size)))
            obtain ⟨a0, a1, r1, f0, f1⟩ := HA.out wy HBY2.out
            obtain ⟨x, hx, hxi, hxz⟩ := HSX.out
            have s0 : wy.cell? ⟨S, 0, none⟩ = some (.string x.name) := hb_at hx 0 rfl
            have s1 : wy.cell? ⟨S, 1, none⟩ = some (.slice x.ao x.zs.length x.c) := hb_at hx 1 rfl
            have s2 : wy.cell? ⟨S, 2, none⟩ = some (.bool x.long) := hb_at hx 2 rfl
            by_cases hp : 0 ≤ p
            · obtain ⟨j, rfl⟩ := Int.eq_ofNat_of_zero_le hp
              clear hp1 hp
              have hjn : j < fn := by omega
              obtain ⟨y, hy⟩ : ∃ y, fl[j]? = some y := ⟨_, List.getElem?_eq_getElem (by rw [← HFN.out]; exact hjn)⟩
              obtain ⟨hsz, hri, hyz, b, off3, rfl, d0, d1, d2⟩ := HF.out j y hy
              have e0 : wy.cell? ⟨b, off3 + j * 3, none⟩ = some (.string y.name) := by rw [HBYW.out.cell (p := ⟨b, off3 + j * 3, none⟩) (World.block_lt_of_cell? w _ d0)]; exact d0
              have e1 : wy.cell? ⟨b, off3 + j * 3 + 1, none⟩ = some (.slice y.ao y.zs.length y.c) := by rw [HBYW.out.cell (p := ⟨b, off3 + j * 3 + 1, none⟩) (World.block_lt_of_cell? w _ d1)]; exact d1
              have e2 : wy.cell? ⟨b, off3 + j * 3 + 2, none⟩ = some (.bool y.long) := by rw [HBYW.out.cell (p := ⟨b, off3 + j * 3 + 2, none⟩) (World.block_lt_of_cell? w _ d2)]; exact d2
              have HYI := Lib.hid (hri.below HBWX.out (Nat.le_refl _))
              have HYZ := Lib.hid hyz
              have z0 : wy.frozen? ⟨S, 0, none⟩ = false := hb_free hx 0
              have HX := Lib.hid hx
              have HXI := Lib.hid hxi
              have HXZ := Lib.hid hxz
              clear d0 d1 d2 hsz hri hyz hy hx hxi hxz
              go_upto_region 15 with fail
              refine Inv.regionP (by kernel_rfl) ?_
              refine Inv.start0 ?_ (by kernel_rfl)
              refine Inv.regionT [0, 1, 2, 3, 4, 5, 6, 7, 8, 9] [] 10 [] [some 61, some 62, some 63, some 64, some 65, some 66, some 67, some 68, some 69, some 70, some 71] [[], [], [0, 1], [2], [3], [], [], [5, 6], [7], [8]] (by kernel_rfl) (by kernel_rfl) (by kernel_rfl) (by kernel_rfl) (by kernel_rfl) [Inv.MP.is (.slice (some ⟨b, off3, none⟩) fn fc), Inv.MP.is (.int .i64 (j : Nat)), Inv.MP.is (.pointer (some ⟨b, off3 + j * 3, none⟩)), Inv.MP.is (.pointer (some ⟨b, off3 + j * 3, none⟩)), Inv.MP.is (.string y.name), Inv.MP.is (.slice (some ⟨gd, offd, none⟩) en dc), Inv.MP.is (.int .i64 (q2 : Nat)), Inv.MP.is (.pointer (some ⟨gd, offd + q2 * 2, none⟩)), Inv.MP.is (.pointer (some ⟨gd, offd + q2 * 2, none⟩)), Inv.MP.is (.string e.name)] [] (by intro x hx; cases hx) _ (by kernel_rfl) ⟨?_, ?_, ?_, ?_, ?_, ?_, ?_, ?_, ?_, ?_, trivial⟩ (fun vs wq hbq hv htie => ?_)
              · intro vs w' hb hv K hK
                clear hv
                have hK2 := hK.out
                clear hK
                simp only [Inv.putD, Inv.dst, List.foldl_cons, List.foldl_nil, List.getD_cons_zero, List.getD_cons_succ, Act.put, List.setIfInBounds_toArray, List.set_cons_zero, List.set_cons_succ, List.filterMap_cons, List.filterMap_nil, List.getElem?_toArray, List.getElem?_cons_zero, List.getElem?_cons_succ] at hK2 ⊢
                have hK := Lib.hid hK2
                clear hK2
                simp only [Region.wanted, Inv.yieldedD, Inv.dst, List.getD_cons_zero, List.getD_cons_succ]
                go_simp
                refine hK.out _ _ (Eq.refl _) (Below.refl _ _) (Inv.noTies _ _ _ _ _)
              · intro vs w' hb hv K hK
                clear hv
                have hK2 := hK.out
                clear hK
                simp only [Inv.putD, Inv.dst, List.foldl_cons, List.foldl_nil, List.getD_cons_zero, List.getD_cons_succ, Act.put, List.setIfInBounds_toArray, List.set_cons_zero, List.set_cons_succ, List.filterMap_cons, List.filterMap_nil, List.getElem?_toArray, List.getElem?_cons_zero, List.getElem?_cons_succ] at hK2 ⊢
                have hK := Lib.hid hK2
                clear hK2
                simp only [Region.wanted, Inv.yieldedD, Inv.dst, List.getD_cons_zero, List.getD_cons_succ]
                go_simp
                refine hK.out _ _ (Eq.refl _) (Below.refl _ _) (Inv.noTies _ _ _ _ _)
              · intro vs w' hb hv K hK
                have h0 : (Inv.MP.is (.slice (some ⟨b, off3, none⟩) fn fc)).p (vs 0) w' := hv 0 (by simp)
                have h1 : (Inv.MP.is (.int .i64 (j : Nat))).p (vs 1) w' := hv 1 (by simp)
                clear hv
                have hK2 := hK.out
                clear hK
                simp only [Inv.putD, Inv.dst, List.foldl_cons, List.foldl_nil, List.getD_cons_zero, List.getD_cons_succ, Act.put, List.setIfInBounds_toArray, List.set_cons_zero, List.set_cons_succ, List.filterMap_cons, List.filterMap_nil, List.getElem?_toArray, List.getElem?_cons_zero, List.getElem?_cons_succ] at hK2 ⊢
                have hK := Lib.hid hK2
                clear hK2
                generalize vs 0 = y0 at *
                generalize vs 1 = y1 at *
                have h0 : y0 = _ := h0
                subst h0
                have h1 : y1 = _ := h1
                subst h1
                simp only [Region.wanted, Inv.yieldedD, Inv.dst, List.getD_cons_zero, List.getD_cons_succ]
                go_simp
                refine hK.out _ _ (Eq.refl _) (Below.refl _ _) (Inv.noTies _ _ _ _ _)
              · intro vs w' hb hv K hK
                have h2 : (Inv.MP.is (.pointer (some ⟨b, off3 + j * 3, none⟩))).p (vs 2) w' := hv 2 (by simp)
                clear hv
                have hK2 := hK.out
                clear hK
                simp only [Inv.putD, Inv.dst, List.foldl_cons, List.foldl_nil, List.getD_cons_zero, List.getD_cons_succ, Act.put, List.setIfInBounds_toArray, List.set_cons_zero, List.set_cons_succ, List.filterMap_cons, List.filterMap_nil, List.getElem?_toArray, List.getElem?_cons_zero, List.getElem?_cons_succ] at hK2 ⊢
                have hK := Lib.hid hK2
                clear hK2
                generalize vs 2 = y2 at *
                have h2 : y2 = _ := h2
                subst h2
                simp only [Region.wanted, Inv.yieldedD, Inv.dst, List.getD_cons_zero, List.getD_cons_succ]
                go_simp
                refine hK.out _ _ (Eq.refl _) (Below.refl _ _) (Inv.noTies _ _ _ _ _)
              · intro vs w' hb hv K hK
                have h3 : (Inv.MP.is (.pointer (some ⟨b, off3 + j * 3, none⟩))).p (vs 3) w' := hv 3 (by simp)
                clear hv
                have hK2 := hK.out
                clear hK
                simp only [Inv.putD, Inv.dst, List.foldl_cons, List.foldl_nil, List.getD_cons_zero, List.getD_cons_succ, Act.put, List.setIfInBounds_toArray, List.set_cons_zero, List.set_cons_succ, List.filterMap_cons, List.filterMap_nil, List.getElem?_toArray, List.getElem?_cons_zero, List.getElem?_cons_succ] at hK2 ⊢
                have hK := Lib.hid hK2
                clear hK2
                generalize vs 3 = y3 at *
                have h3 : y3 = _ := h3
                subst h3
                have e0b := (hb.cell (p := ⟨b, off3 + j * 3, none⟩) (World.block_lt_of_cell? _ _ e0)).trans e0
                simp only [Region.wanted, Inv.yieldedD, Inv.dst, List.getD_cons_zero, List.getD_cons_succ]
                go_simp
                refine hK.out _ _ (Eq.refl _) (Below.refl _ _) (Inv.noTies _ _ _ _ _)
              · intro vs w' hb hv K hK
                clear hv
                have hK2 := hK.out
                clear hK
                simp only [Inv.putD, Inv.dst, List.foldl_cons, List.foldl_nil, List.getD_cons_zero, List.getD_cons_succ, Act.put, List.setIfInBounds_toArray, List.set_cons_zero, List.set_cons_succ, List.filterMap_cons, List.filterMap_nil, List.getElem?_toArray, List.getElem?_cons_zero, List.getElem?_cons_succ] at hK2 ⊢
                have hK := Lib.hid hK2
                clear hK2
                simp only [Region.wanted, Inv.yieldedD, Inv.dst, List.getD_cons_zero, List.getD_cons_succ]
                go_simp
                refine hK.out _ _ (Eq.refl _) (Below.refl _ _) (Inv.noTies _ _ _ _ _)
              · intro vs w' hb hv K hK
                clear hv
                have hK2 := hK.out
                clear hK
                simp only [Inv.putD, Inv.dst, List.foldl_cons, List.foldl_nil, List.getD_cons_zero, List.getD_cons_succ, Act.put, List.setIfInBounds_toArray, List.set_cons_zero, List.set_cons_succ, List.filterMap_cons, List.filterMap_nil, List.getElem?_toArray, List.getElem?_cons_zero, List.getElem?_cons_succ] at hK2 ⊢
                have hK := Lib.hid hK2
                clear hK2
                simp only [Region.wanted, Inv.yieldedD, Inv.dst, List.getD_cons_zero, List.getD_cons_succ]
                go_simp
                refine hK.out _ _ (Eq.refl _) (Below.refl _ _) (Inv.noTies _ _ _ _ _)
              · intro vs w' hb hv K hK
                have h5 : (Inv.MP.is (.slice (some ⟨gd, offd, none⟩) en dc)).p (vs 5) w' := hv 5 (by simp)
                have h6 : (Inv.MP.is (.int .i64 (q2 : Nat))).p (vs 6) w' := hv 6 (by simp)
                clear hv
                have hK2 := hK.out
                clear hK
                simp only [Inv.putD, Inv.dst, List.foldl_cons, List.foldl_nil, List.getD_cons_zero, List.getD_cons_succ, Act.put, List.setIfInBounds_toArray, List.set_cons_zero, List.set_cons_succ, List.filterMap_cons, List.filterMap_nil, List.getElem?_toArray, List.getElem?_cons_zero, List.getElem?_cons_succ] at hK2 ⊢
                have hK := Lib.hid hK2
                clear hK2
                generalize vs 5 = y5 at *
                generalize vs 6 = y6 at *
                have h5 : y5 = _ := h5
                subst h5
                have h6 : y6 = _ := h6
                subst h6
                simp only [Region.wanted, Inv.yieldedD, Inv.dst, List.getD_cons_zero, List.getD_cons_succ]
                go_simp
                refine hK.out _ _ (Eq.refl _) (Below.refl _ _) (Inv.noTies _ _ _ _ _)
              · intro vs w' hb hv K hK
                have h7 : (Inv.MP.is (.pointer (some ⟨gd, offd + q2 * 2, none⟩))).p (vs 7) w' := hv 7 (by simp)
                clear hv
                have hK2 := hK.out
                clear hK
                simp only [Inv.putD, Inv.dst, List.foldl_cons, List.foldl_nil, List.getD_cons_zero, List.getD_cons_succ, Act.put, List.setIfInBounds_toArray, List.set_cons_zero, List.set_cons_succ, List.filterMap_cons, List.filterMap_nil, List.getElem?_toArray, List.getElem?_cons_zero, List.getElem?_cons_succ] at hK2 ⊢
                have hK := Lib.hid hK2
                clear hK2
                generalize vs 7 = y7 at *
                have h7 : y7 = _ := h7
                subst h7
                simp only [Region.wanted, Inv.yieldedD, Inv.dst, List.getD_cons_zero, List.getD_cons_succ]
                go_simp
                refine hK.out _ _ (Eq.refl _) (Below.refl _ _) (Inv.noTies _ _ _ _ _)
              · intro vs w' hb hv K hK
                have h8 : (Inv.MP.is (.pointer (some ⟨gd, offd + q2 * 2, none⟩))).p (vs 8) w' := hv 8 (by simp)
                clear hv
                have hK2 := hK.out
                clear hK
                simp only [Inv.putD, Inv.dst, List.foldl_cons, List.foldl_nil, List.getD_cons_zero, List.getD_cons_succ, Act.put, List.setIfInBounds_toArray, List.set_cons_zero, List.set_cons_succ, List.filterMap_cons, List.filterMap_nil, List.getElem?_toArray, List.getElem?_cons_zero, List.getElem?_cons_succ] at hK2 ⊢
                have hK := Lib.hid hK2
                clear hK2
                generalize vs 8 = y8 at *
                have h8 : y8 = _ := h8
                subst h8
                have a0b := (hb.cell (p := ⟨gd, offd + q2 * 2, none⟩) (World.block_lt_of_cell? _ _ a0)).trans a0
                simp only [Region.wanted, Inv.yieldedD, Inv.dst, List.getD_cons_zero, List.getD_cons_succ]
                go_simp
                refine hK.out _ _ (Eq.refl _) (Below.refl _ _) (Inv.noTies _ _ _ _ _)
              · have h4 : vs 4 = .string y.name := hv 4 (by simp)
                have h9 : vs 9 = .string e.name := hv 9 (by simp)
                clear hv htie
                simp only [Inv.putD, Inv.dst, List.foldl_cons, List.foldl_nil, List.getD_cons_zero, List.getD_cons_succ, Act.put, List.setIfInBounds_toArray, List.set_cons_zero, List.set_cons_succ, List.filterMap_cons, List.filterMap_nil, List.getElem?_toArray, List.getElem?_cons_zero, List.getElem?_cons_succ]
                generalize vs 0 = yy0 at *
                generalize vs 1 = yy1 at *
                generalize vs 2 = yy2 at *
                generalize vs 3 = yy3 at *
                generalize vs 4 = yy4 at *
                generalize vs 5 = yy5 at *
                generalize vs 6 = yy6 at *
                generalize vs 7 = yy7 at *
                generalize vs 8 = yy8 at *
                generalize vs 9 = yy9 at *
                subst h4 h9
                have HBQ := Lib.hid (HBY.out.trans (hbq.mono (by rw [← HS0.out]; exact HBY.out.size)))
                have hxq := hb_below HX.out hbq (hb_lt HX.out)
                have e0q := (hbq.cell (p := ⟨b, off3 + j * 3, none⟩) (World.block_lt_of_cell? _ _ e0)).trans e0
                have e1q := (hbq.cell (p := ⟨b, off3 + j * 3 + 1, none⟩) (World.block_lt_of_cell? _ _ e1)).trans e1
                have e2q := (hbq.cell (p := ⟨b, off3 + j * 3 + 2, none⟩) (World.block_lt_of_cell? _ _ e2)).trans e2
                have z0q : wq.frozen? ⟨S, 0, none⟩ = false := hb_free hxq 0
                have s0q : wq.cell? ⟨S, 0, none⟩ = some (.string x.name) := hb_at hxq 0 rfl
                have s1q : wq.cell? ⟨S, 1, none⟩ = some (.slice x.ao x.zs.length x.c) := hb_at hxq 1 rfl
                have s2q : wq.cell? ⟨S, 2, none⟩ = some (.bool x.long) := hb_at hxq 2 rfl
                have z1q : (wq.setCell ⟨S, 0, none⟩ (.string y.name)).frozen? ⟨S, 1, none⟩ = false := hb_free (hb_set_same hxq 0 _) 1
                have z2q : ((wq.setCell ⟨S, 0, none⟩ (.string y.name)).setCell ⟨S, 1, none⟩ (.slice y.ao y.zs.length y.c)).frozen? ⟨S, 2, none⟩ = false := hb_free (hb_set_same (hb_set_same hxq 0 _) 1 _) 2
                have HX3 := Lib.hid (hb_set_same (hb_set_same (hb_set_same hxq 0 (.string y.name)) 1 (.slice y.ao y.zs.length y.c)) 2 (.bool y.long))
                have HB3 := Lib.hid (below_set (j := 2) (v := .bool y.long) (below_set (j := 1) (v := .slice y.ao y.zs.length y.c) (below_set (j := 0) (v := .string y.name) HBQ.out (hb_lt hxq)) (hb_lt (hb_set_same hxq 0 _))) (hb_lt (hb_set_same (hb_set_same hxq 0 _) 1 _)))
                have HXQ := Lib.hid hxq
                clear hxq hbq e0 e1 e2 s0 s1 s2 z0 a0 a1 r1 f0 f1
                by_cases hnm : y.name = e.name
                · have htl : (y.name.toList == e.name.toList) = true := by rw [hnm]; simp
                  have HNM := Lib.hid hnm
                  clear hnm
                  go_wp2_with fail
                  exact ⟨⟨(j : Int) - 1, rfl, by omega, by omega, Lib.hid ⟨y, HX3.out, HYI.out, HYZ.out⟩, HB3⟩, by simp [intOf]⟩
                · have htl : (y.name.toList == e.name.toList) = false := tl_ne hnm
                  clear hnm
                  go_wp2_with fail
                  exact ⟨⟨(j : Int) - 1, rfl, by omega, by omega, Lib.hid ⟨x, HXQ.out, HXI.out, HXZ.out⟩, HBQ⟩, by simp [intOf]⟩
            · obtain rfl : p = -1 := by omega
              go_upto_region 17 with fail
              refine Inv.regionP (by kernel_rfl) ?_
              refine Inv.start0 ?_ (by kernel_rfl)
              refine Inv.regionT [0, 1, 2, 3, 4, 5, 6, 7, 8, 9, 10, 11] [] 12 [13] [some 76, some 77, some 78, some 79, some 80, some 81, some 82, some 83, some 84, some 85, some 86, some 87, some 88, some 13] [[], [0], [1], [2], [], [], [4, 5], [6], [7], [3, 8], [9], []] (by kernel_rfl) (by kernel_rfl) (by kernel_rfl) (by kernel_rfl) (by kernel_rfl) [Inv.MP.is (.pointer (some ⟨r, 0, none⟩)), Inv.MP.is (.pointer (some ⟨r, 0, none⟩)), Inv.MP.is (.pointer (some ⟨r, 1, none⟩)), Inv.MP.is (.slice (some ⟨gf, 0, none⟩) fs.length fc0), Inv.MP.is (.slice (some ⟨gd, offd, none⟩) en dc), Inv.MP.is (.int .i64 (q2 : Nat)), Inv.MP.is (.pointer (some ⟨gd, offd + q2 * 2, none⟩)), Inv.MP.is (.pointer (some ⟨gd, offd + q2 * 2 + 1, none⟩)), Inv.MP.is (.int .i64 (e.f : Nat)), Inv.MP.is (.pointer (some ⟨gf, e.f * 2, none⟩)), Inv.MP.is (.agg #[.string f.now, .string f.lasts]), Inv.MP.is (.agg #[.string x.name, .slice x.ao x.zs.length x.c, .bool x.long])] [] (by intro x hx; cases hx) _ (by kernel_rfl) ⟨?_, ?_, ?_, ?_, ?_, ?_, ?_, ?_, ?_, ?_, ?_, ?_, trivial⟩ (fun vs wq hbq hv htie => ?_)
              · intro vs w' hb hv K hK
                clear hv
                have hK2 := hK.out
                clear hK
                simp only [Inv.putD, Inv.dst, List.foldl_cons, List.foldl_nil, List.getD_cons_zero, List.getD_cons_succ, Act.put, List.setIfInBounds_toArray, List.set_cons_zero, List.set_cons_succ, List.filterMap_cons, List.filterMap_nil, List.getElem?_toArray, List.getElem?_cons_zero, List.getElem?_cons_succ] at hK2 ⊢
                have hK := Lib.hid hK2
                clear hK2
                simp only [Region.wanted, Inv.yieldedD, Inv.dst, List.getD_cons_zero, List.getD_cons_succ]
                go_simp
                refine hK.out _ _ (Eq.refl _) (Below.refl _ _) (Inv.noTies _ _ _ _ _)
              · intro vs w' hb hv K hK
                have h0 : (Inv.MP.is (.pointer (some ⟨r, 0, none⟩))).p (vs 0) w' := hv 0 (by simp)
                clear hv
                have hK2 := hK.out
                clear hK
                simp only [Inv.putD, Inv.dst, List.foldl_cons, List.foldl_nil, List.getD_cons_zero, List.getD_cons_succ, Act.put, List.setIfInBounds_toArray, List.set_cons_zero, List.set_cons_succ, List.filterMap_cons, List.filterMap_nil, List.getElem?_toArray, List.getElem?_cons_zero, List.getElem?_cons_succ] at hK2 ⊢
                have hK := Lib.hid hK2
                clear hK2
                generalize vs 0 = y0 at *
                have h0 : y0 = _ := h0
                subst h0
                simp only [Region.wanted, Inv.yieldedD, Inv.dst, List.getD_cons_zero, List.getD_cons_succ]
                go_simp
                refine hK.out _ _ (Eq.refl _) (Below.refl _ _) (Inv.noTies _ _ _ _ _)
              · intro vs w' hb hv K hK
                have h1 : (Inv.MP.is (.pointer (some ⟨r, 0, none⟩))).p (vs 1) w' := hv 1 (by simp)
                clear hv
                have hK2 := hK.out
                clear hK
                simp only [Inv.putD, Inv.dst, List.foldl_cons, List.foldl_nil, List.getD_cons_zero, List.getD_cons_succ, Act.put, List.setIfInBounds_toArray, List.set_cons_zero, List.set_cons_succ, List.filterMap_cons, List.filterMap_nil, List.getElem?_toArray, List.getElem?_cons_zero, List.getElem?_cons_succ] at hK2 ⊢
                have hK := Lib.hid hK2
                clear hK2
                generalize vs 1 = y1 at *
                have h1 : y1 = _ := h1
                subst h1
                simp only [Region.wanted, Inv.yieldedD, Inv.dst, List.getD_cons_zero, List.getD_cons_succ]
                go_simp
                refine hK.out _ _ (Eq.refl _) (Below.refl _ _) (Inv.noTies _ _ _ _ _)
              · intro vs w' hb hv K hK
                have h2 : (Inv.MP.is (.pointer (some ⟨r, 1, none⟩))).p (vs 2) w' := hv 2 (by simp)
                clear hv
                have hK2 := hK.out
                clear hK
                simp only [Inv.putD, Inv.dst, List.foldl_cons, List.foldl_nil, List.getD_cons_zero, List.getD_cons_succ, Act.put, List.setIfInBounds_toArray, List.set_cons_zero, List.set_cons_succ, List.filterMap_cons, List.filterMap_nil, List.getElem?_toArray, List.getElem?_cons_zero, List.getElem?_cons_succ] at hK2 ⊢
                have hK := Lib.hid hK2
                clear hK2
                generalize vs 2 = y2 at *
                have h2 : y2 = _ := h2
                subst h2
                have r1b := (hb.cell (p := ⟨r, 1, none⟩) (World.block_lt_of_cell? _ _ r1)).trans r1
                simp only [Region.wanted, Inv.yieldedD, Inv.dst, List.getD_cons_zero, List.getD_cons_succ]
                go_simp
                refine hK.out _ _ (Eq.refl _) (Below.refl _ _) (Inv.noTies _ _ _ _ _)
              · intro vs w' hb hv K hK
                clear hv
                have hK2 := hK.out
                clear hK
                simp only [Inv.putD, Inv.dst, List.foldl_cons, List.foldl_nil, List.getD_cons_zero, List.getD_cons_succ, Act.put, List.setIfInBounds_toArray, List.set_cons_zero, List.set_cons_succ, List.filterMap_cons, List.filterMap_nil, List.getElem?_toArray, List.getElem?_cons_zero, List.getElem?_cons_succ] at hK2 ⊢
                have hK := Lib.hid hK2
                clear hK2
                simp only [Region.wanted, Inv.yieldedD, Inv.dst, List.getD_cons_zero, List.getD_cons_succ]
                go_simp
                refine hK.out _ _ (Eq.refl _) (Below.refl _ _) (Inv.noTies _ _ _ _ _)
              · intro vs w' hb hv K hK
                clear hv
                have hK2 := hK.out
                clear hK
                simp only [Inv.putD, Inv.dst, List.foldl_cons, List.foldl_nil, List.getD_cons_zero, List.getD_cons_succ, Act.put, List.setIfInBounds_toArray, List.set_cons_zero, List.set_cons_succ, List.filterMap_cons, List.filterMap_nil, List.getElem?_toArray, List.getElem?_cons_zero, List.getElem?_cons_succ] at hK2 ⊢
                have hK := Lib.hid hK2
                clear hK2
                simp only [Region.wanted, Inv.yieldedD, Inv.dst, List.getD_cons_zero, List.getD_cons_succ]
                go_simp
                refine hK.out _ _ (Eq.refl _) (Below.refl _ _) (Inv.noTies _ _ _ _ _)
              · intro vs w' hb hv K hK
                have h4 : (Inv.MP.is (.slice (some ⟨gd, offd, none⟩) en dc)).p (vs 4) w' := hv 4 (by simp)
                have h5 : (Inv.MP.is (.int .i64 (q2 : Nat))).p (vs 5) w' := hv 5 (by simp)
                clear hv
                have hK2 := hK.out
                clear hK
                simp only [Inv.putD, Inv.dst, List.foldl_cons, List.foldl_nil, List.getD_cons_zero, List.getD_cons_succ, Act.put, List.setIfInBounds_toArray, List.set_cons_zero, List.set_cons_succ, List.filterMap_cons, List.filterMap_nil, List.getElem?_toArray, List.getElem?_cons_zero, List.getElem?_cons_succ] at hK2 ⊢
                have hK := Lib.hid hK2
                clear hK2
                generalize vs 4 = y4 at *
                generalize vs 5 = y5 at *
                have h4 : y4 = _ := h4
                subst h4
                have h5 : y5 = _ := h5
                subst h5
                simp only [Region.wanted, Inv.yieldedD, Inv.dst, List.getD_cons_zero, List.getD_cons_succ]
                go_simp
                refine hK.out _ _ (Eq.refl _) (Below.refl _ _) (Inv.noTies _ _ _ _ _)
              · intro vs w' hb hv K hK
                have h6 : (Inv.MP.is (.pointer (some ⟨gd, offd + q2 * 2, none⟩))).p (vs 6) w' := hv 6 (by simp)
                clear hv
                have hK2 := hK.out
                clear hK
                simp only [Inv.putD, Inv.dst, List.foldl_cons, List.foldl_nil, List.getD_cons_zero, List.getD_cons_succ, Act.put, List.setIfInBounds_toArray, List.set_cons_zero, List.set_cons_succ, List.filterMap_cons, List.filterMap_nil, List.getElem?_toArray, List.getElem?_cons_zero, List.getElem?_cons_succ] at hK2 ⊢
                have hK := Lib.hid hK2
                clear hK2
                generalize vs 6 = y6 at *
                have h6 : y6 = _ := h6
                subst h6
                simp only [Region.wanted, Inv.yieldedD, Inv.dst, List.getD_cons_zero, List.getD_cons_succ]
                go_simp
                refine hK.out _ _ (Eq.refl _) (Below.refl _ _) (Inv.noTies _ _ _ _ _)
              · intro vs w' hb hv K hK
                have h7 : (Inv.MP.is (.pointer (some ⟨gd, offd + q2 * 2 + 1, none⟩))).p (vs 7) w' := hv 7 (by simp)
                clear hv
                have hK2 := hK.out
                clear hK
                simp only [Inv.putD, Inv.dst, List.foldl_cons, List.foldl_nil, List.getD_cons_zero, List.getD_cons_succ, Act.put, List.setIfInBounds_toArray, List.set_cons_zero, List.set_cons_succ, List.filterMap_cons, List.filterMap_nil, List.getElem?_toArray, List.getElem?_cons_zero, List.getElem?_cons_succ] at hK2 ⊢
                have hK := Lib.hid hK2
                clear hK2
                generalize vs 7 = y7 at *
                have h7 : y7 = _ := h7
                subst h7
                have a1b := (hb.cell (p := ⟨gd, offd + q2 * 2 + 1, none⟩) (World.block_lt_of_cell? _ _ a1)).trans a1
                simp only [Region.wanted, Inv.yieldedD, Inv.dst, List.getD_cons_zero, List.getD_cons_succ]
                go_simp
                refine hK.out _ _ (Eq.refl _) (Below.refl _ _) (Inv.noTies _ _ _ _ _)
              · intro vs w' hb hv K hK
                have h3 : (Inv.MP.is (.slice (some ⟨gf, 0, none⟩) fs.length fc0)).p (vs 3) w' := hv 3 (by simp)
                have h8 : (Inv.MP.is (.int .i64 (e.f : Nat))).p (vs 8) w' := hv 8 (by simp)
                clear hv
                have hK2 := hK.out
                clear hK
                simp only [Inv.putD, Inv.dst, List.foldl_cons, List.foldl_nil, List.getD_cons_zero, List.getD_cons_succ, Act.put, List.setIfInBounds_toArray, List.set_cons_zero, List.set_cons_succ, List.filterMap_cons, List.filterMap_nil, List.getElem?_toArray, List.getElem?_cons_zero, List.getElem?_cons_succ] at hK2 ⊢
                have hK := Lib.hid hK2
                clear hK2
                generalize vs 3 = y3 at *
                generalize vs 8 = y8 at *
                have h3 : y3 = _ := h3
                subst h3
                have h8 : y8 = _ := h8
                subst h8
                have hef := HEF.out
                simp only [Region.wanted, Inv.yieldedD, Inv.dst, List.getD_cons_zero, List.getD_cons_succ]
                go_simp
                refine hK.out _ _ (Eq.refl _) (Below.refl _ _) (Inv.noTies _ _ _ _ _)
              · intro vs w' hb hv K hK
                have h9 : (Inv.MP.is (.pointer (some ⟨gf, e.f * 2, none⟩))).p (vs 9) w' := hv 9 (by simp)
                clear hv
                have hK2 := hK.out
                clear hK
                simp only [Inv.putD, Inv.dst, List.foldl_cons, List.foldl_nil, List.getD_cons_zero, List.getD_cons_succ, Act.put, List.setIfInBounds_toArray, List.set_cons_zero, List.set_cons_succ, List.filterMap_cons, List.filterMap_nil, List.getElem?_toArray, List.getElem?_cons_zero, List.getElem?_cons_succ] at hK2 ⊢
                have hK := Lib.hid hK2
                clear hK2
                generalize vs 9 = y9 at *
                have h9 : y9 = _ := h9
                subst h9
                have f0b := (hb.cell (p := ⟨gf, e.f * 2, none⟩) (World.block_lt_of_cell? _ _ f0)).trans f0
                have f1b := (hb.cell (p := ⟨gf, e.f * 2 + 1, none⟩) (World.block_lt_of_cell? _ _ f1)).trans f1
                simp only [Region.wanted, Inv.yieldedD, Inv.dst, List.getD_cons_zero, List.getD_cons_succ]
                go_simp
                refine hK.out _ _ (Eq.refl _) (Below.refl _ _) (Inv.noTies _ _ _ _ _)
              · intro vs w' hb hv K hK
                clear hv
                have hK2 := hK.out
                clear hK
                simp only [Inv.putD, Inv.dst, List.foldl_cons, List.foldl_nil, List.getD_cons_zero, List.getD_cons_succ, Act.put, List.setIfInBounds_toArray, List.set_cons_zero, List.set_cons_succ, List.filterMap_cons, List.filterMap_nil, List.getElem?_toArray, List.getElem?_cons_zero, List.getElem?_cons_succ] at hK2 ⊢
                have hK := Lib.hid hK2
                clear hK2
                have s0b := (hb.cell (p := ⟨S, 0, none⟩) (World.block_lt_of_cell? _ _ s0)).trans s0
                have s1b := (hb.cell (p := ⟨S, 1, none⟩) (World.block_lt_of_cell? _ _ s1)).trans s1
                have s2b := (hb.cell (p := ⟨S, 2, none⟩) (World.block_lt_of_cell? _ _ s2)).trans s2
                simp only [Region.wanted, Inv.yieldedD, Inv.dst, List.getD_cons_zero, List.getD_cons_succ]
                go_simp
                refine hK.out _ _ (Eq.refl _) (Below.refl _ _) (Inv.noTies _ _ _ _ _)
              · have h10 : vs 10 = .agg #[.string f.now, .string f.lasts] := hv 10 (by simp)
                have h11 : vs 11 = .agg #[.string x.name, .slice x.ao x.zs.length x.c, .bool x.long] := hv 11 (by simp)
                clear hv htie
                simp only [Inv.putD, Inv.dst, List.foldl_cons, List.foldl_nil, List.getD_cons_zero, List.getD_cons_succ, Act.put, List.setIfInBounds_toArray, List.set_cons_zero, List.set_cons_succ, List.filterMap_cons, List.filterMap_nil, List.getElem?_toArray, List.getElem?_cons_zero, List.getElem?_cons_succ]
                generalize vs 0 = yy0 at *
                generalize vs 1 = yy1 at *
                generalize vs 2 = yy2 at *
                generalize vs 3 = yy3 at *
                generalize vs 4 = yy4 at *
                generalize vs 5 = yy5 at *
                generalize vs 6 = yy6 at *
                generalize vs 7 = yy7 at *
                generalize vs 8 = yy8 at *
                generalize vs 9 = yy9 at *
                generalize vs 10 = yy10 at *
                generalize vs 11 = yy11 at *
                subst h10 h11
                have HBQ := HBY.out.trans (hbq.mono (by rw [← HS0.out]; exact HBY.out.size))
                have HIQ := Lib.hid (hxi.below HBQ (by rw [HS0.out]; exact Nat.le_refl _))
                have HXZ := Lib.hid hxz
                have HBQ := Lib.hid HBQ
                clear hx hxi hxz hbq a0 a1 r1 f0 f1 s0 s1 s2
                obtain ⟨fv2, dv2, fs2, ds2, hR2, hl1, hl2⟩ := HS.out
                have HR2 := Lib.hid hR2
                have HL1 := Lib.hid hl1
                have HL2 := Lib.hid hl2
                clear hR2 hl1 hl2
                obtain ⟨fa2, fc2, rfl, _⟩ := own_sl HR2.out.files
                obtain ⟨da2, dc2, rfl, _⟩ := own_sl HR2.out.dir
                go_upto_region 18 with (first
                  | (go_at_call 67; ((with_reducible refine (rleft_any HIQ.out (Nat.le_trans HXZ.out (by unfold manyZ maxLen; omega)) f.now f.lasts x.name HSM.out.1 HSM.out.2 x.long).mono ?_); rintro e6 w6 ⟨⟨out, rfl, hout⟩, hb6⟩))
                  | go_in)
                have HB6 := Lib.hid (HBQ.out.trans (hb6.mono (by rw [← HS0.out]; exact HBQ.out.size)))
                have hR6 := HR2.out.kept (w' := w6) fun _ _ _ _ _ hx => hb_below hx HB6.out (by rw [← HS0.out]; exact hb_lt hx)
                have hB6W : Below R0 wz w6 := HBX.out.trans (HB6.out.mono (by rw [← HS0.out, ← HR0.out]; exact HBX.out.size))
                have hR06 : R0 ≤ w6.heap.size := by rw [← HR0.out]; exact hB6W.size
                have hba := below_alloc w6 (.cells #[.string out, .string out] 108)
                have hR7 := hR6.kept (w' := w6.alloc (.cells #[.string out, .string out] 108)) fun _ _ _ _ _ hx => hb_alloc hx _
                obtain ⟨v8, w8, hr8, ho8, hg8⟩ := append_rf _ R0 _ fs2 ⟨out, out⟩ hR7.files w6.heap.size 1 (hb_new _ _) (by have := HL1.out; omega) (Nat.le_trans hR06 hba.size)
                obtain ⟨a8, c8, hv8, _⟩ := own_sl ho8
                rw [show (fs2 ++ [(⟨out, out⟩ : RF)]).length = fs2.length + 1 by simp] at hv8
                subst hv8
                obtain ⟨hR8, hF8⟩ := hR7.grow hg8 ho8 (Nat.le_trans hR06 hba.size) ⟨hout, hout⟩
                obtain ⟨fa7, pw7, off7, hs7⟩ := hR7.store
                have hs8 := hb_grown hs7 hg8 (own_ne hR7.files hs7 (fun cs f e2 => by simp at e2))
                have z8 := hb_free hs8 1
                have x8 := hb_at hs8 1 rfl
                obtain ⟨fa6, pw6, off6, hs6⟩ := hR6.store
                have d6 : w6.cell? ⟨R0, 1, none⟩ = some (.slice fa2 fs2.length fc2) := hb_at hs6 1 rfl
                have HR9 := Lib.hid hR8
                have HB9 := Lib.hid ((hB6W.trans (hba.mono hR06)).trans ((Below.ofRFrm hF8).mono (Nat.le_refl _)))
                clear hs8 hs7 hs6 hR8 hF8 hR7 hR6 hba hg8 ho8 hb6
                go_upto_region 19 with (first
                  | (at_builtin; refine wpList_append_at rfl _ _ rfl rfl rfl rfl hr8 ?_)
                  | go_in)
                clear hr8 z8 x8 d6
                generalize (w8.setCell ⟨R0, 1, none⟩ (.slice a8 (fs2.length + 1) c8)) = W9 at *
                have n9 := (HA.out W9 HB9.out).1
                obtain ⟨fa9, pw9, off9, hs9⟩ := HR9.out.store
                have HS9 := Lib.hid hs9
                have HR09 : RowKit.Hid (R0 ≤ W9.heap.size) := Lib.hid (by rw [← HR0.out]; exact HB9.out.size)
                clear hs9
                refine Inv.regionP (by kernel_rfl) ?_
                refine Inv.take1 (i := 0) (oi := ⟨some 101, _, _, _, _, _⟩) (v := (.pointer (some ⟨R0, 0, none⟩))) [0] rfl (by kernel_rfl) (by kernel_rfl) (by kernel_rfl) (fun _ _ _ h => h) (Or.inl ⟨by rfl, ?_⟩) (by kernel_rfl) ?_
                · intro w'
                  go_simp
                simp only [Act.put, List.setIfInBounds_toArray, List.set_cons_zero, List.set_cons_succ]
                refine Inv.regionT [1, 2, 3, 4, 5, 6, 7, 8, 9, 10, 11, 12] [0] 13 [14, 15, 16] [some 101, some 102, some 103, some 104, some 105, some 106, some 107, some 108, some 109, some 110, some 111, some 112, some 113, some 114, some 115, some 116, none] [[], [1], [2], [3], [], [], [5, 6], [7], [8], [], [9, 10], [11]] (by kernel_rfl) (by kernel_rfl) (by kernel_rfl) (by kernel_rfl) (by kernel_rfl) [Inv.MP.is (.pointer (some ⟨R0, 0, none⟩)), Inv.MP.is (.pointer (some ⟨R0, 0, none⟩)), Inv.MP.is (.pointer (some ⟨R0, 0, none⟩)), Inv.MP.is (.pointer (some ⟨R0, 2, none⟩)), Inv.MP.is (.slice da2 ds2.length dc2), Inv.MP.is (.slice (some ⟨gd, offd, none⟩) en dc), Inv.MP.is (.int .i64 (q2 : Nat)), Inv.MP.is (.pointer (some ⟨gd, offd + q2 * 2, none⟩)), Inv.MP.is (.pointer (some ⟨gd, offd + q2 * 2, none⟩)), Inv.MP.is (.string e.name), Inv.MP.is (.int .i64 (q2 : Nat)), Inv.MP.is (.agg #[.string e.name, .int .i64 (q2 : Nat)]), Inv.MP.made #[.string e.name, .int .i64 (q2 : Nat)] 115 1] [] (by intro x hx; cases hx) _ (by kernel_rfl) ⟨?_, ?_, ?_, ?_, ?_, ?_, ?_, ?_, ?_, ?_, ?_, ?_, trivial⟩ (fun vs wq hbq hv htie => ?_)
                · intro vs w' hb hv K hK
                  clear hv
                  have hK2 := hK.out
                  clear hK
                  simp only [Inv.putD, Inv.dst, List.foldl_cons, List.foldl_nil, List.getD_cons_zero, List.getD_cons_succ, Act.put, List.setIfInBounds_toArray, List.set_cons_zero, List.set_cons_succ, List.filterMap_cons, List.filterMap_nil, List.getElem?_toArray, List.getElem?_cons_zero, List.getElem?_cons_succ] at hK2 ⊢
                  have hK := Lib.hid hK2
                  clear hK2
                  simp only [Region.wanted, Inv.yieldedD, Inv.dst, List.getD_cons_zero, List.getD_cons_succ]
                  go_simp
                  refine hK.out _ _ (Eq.refl _) (Below.refl _ _) (Inv.noTies _ _ _ _ _)
                · intro vs w' hb hv K hK
                  have h1 : (Inv.MP.is (.pointer (some ⟨R0, 0, none⟩))).p (vs 1) w' := hv 1 (by simp)
                  clear hv
                  have hK2 := hK.out
                  clear hK
                  simp only [Inv.putD, Inv.dst, List.foldl_cons, List.foldl_nil, List.getD_cons_zero, List.getD_cons_succ, Act.put, List.setIfInBounds_toArray, List.set_cons_zero, List.set_cons_succ, List.filterMap_cons, List.filterMap_nil, List.getElem?_toArray, List.getElem?_cons_zero, List.getElem?_cons_succ] at hK2 ⊢
                  have hK := Lib.hid hK2
                  clear hK2
                  generalize vs 1 = y1 at *
                  have h1 : y1 = _ := h1
                  subst h1
                  simp only [Region.wanted, Inv.yieldedD, Inv.dst, List.getD_cons_zero, List.getD_cons_succ]
                  go_simp
                  refine hK.out _ _ (Eq.refl _) (Below.refl _ _) (Inv.noTies _ _ _ _ _)
                · intro vs w' hb hv K hK
                  have h2 : (Inv.MP.is (.pointer (some ⟨R0, 0, none⟩))).p (vs 2) w' := hv 2 (by simp)
                  clear hv
                  have hK2 := hK.out
                  clear hK
                  simp only [Inv.putD, Inv.dst, List.foldl_cons, List.foldl_nil, List.getD_cons_zero, List.getD_cons_succ, Act.put, List.setIfInBounds_toArray, List.set_cons_zero, List.set_cons_succ, List.filterMap_cons, List.filterMap_nil, List.getElem?_toArray, List.getElem?_cons_zero, List.getElem?_cons_succ] at hK2 ⊢
                  have hK := Lib.hid hK2
                  clear hK2
                  generalize vs 2 = y2 at *
                  have h2 : y2 = _ := h2
                  subst h2
                  simp only [Region.wanted, Inv.yieldedD, Inv.dst, List.getD_cons_zero, List.getD_cons_succ]
                  go_simp
                  refine hK.out _ _ (Eq.refl _) (Below.refl _ _) (Inv.noTies _ _ _ _ _)
                · intro vs w' hb hv K hK
                  have h3 : (Inv.MP.is (.pointer (some ⟨R0, 2, none⟩))).p (vs 3) w' := hv 3 (by simp)
                  clear hv
                  have hK2 := hK.out
                  clear hK
                  simp only [Inv.putD, Inv.dst, List.foldl_cons, List.foldl_nil, List.getD_cons_zero, List.getD_cons_succ, Act.put, List.setIfInBounds_toArray, List.set_cons_zero, List.set_cons_succ, List.filterMap_cons, List.filterMap_nil, List.getElem?_toArray, List.getElem?_cons_zero, List.getElem?_cons_succ] at hK2 ⊢
                  have hK := Lib.hid hK2
                  clear hK2
                  generalize vs 3 = y3 at *
                  have h3 : y3 = _ := h3
                  subst h3
                  have c2 := hb_at (hb_below HS9.out hb (hb_lt HS9.out)) 2 rfl
                  simp only [Region.wanted, Inv.yieldedD, Inv.dst, List.getD_cons_zero, List.getD_cons_succ]
                  go_simp
                  refine hK.out _ _ (Eq.refl _) (Below.refl _ _) (Inv.noTies _ _ _ _ _)
                · intro vs w' hb hv K hK
                  clear hv
                  have hK2 := hK.out
                  clear hK
                  simp only [Inv.putD, Inv.dst, List.foldl_cons, List.foldl_nil, List.getD_cons_zero, List.getD_cons_succ, Act.put, List.setIfInBounds_toArray, List.set_cons_zero, List.set_cons_succ, List.filterMap_cons, List.filterMap_nil, List.getElem?_toArray, List.getElem?_cons_zero, List.getElem?_cons_succ] at hK2 ⊢
                  have hK := Lib.hid hK2
                  clear hK2
                  simp only [Region.wanted, Inv.yieldedD, Inv.dst, List.getD_cons_zero, List.getD_cons_succ]
                  go_simp
                  refine hK.out _ _ (Eq.refl _) (Below.refl _ _) (Inv.noTies _ _ _ _ _)
                · intro vs w' hb hv K hK
                  clear hv
                  have hK2 := hK.out
                  clear hK
                  simp only [Inv.putD, Inv.dst, List.foldl_cons, List.foldl_nil, List.getD_cons_zero, List.getD_cons_succ, Act.put, List.setIfInBounds_toArray, List.set_cons_zero, List.set_cons_succ, List.filterMap_cons, List.filterMap_nil, List.getElem?_toArray, List.getElem?_cons_zero, List.getElem?_cons_succ] at hK2 ⊢
                  have hK := Lib.hid hK2
                  clear hK2
                  simp only [Region.wanted, Inv.yieldedD, Inv.dst, List.getD_cons_zero, List.getD_cons_succ]
                  go_simp
                  refine hK.out _ _ (Eq.refl _) (Below.refl _ _) (Inv.noTies _ _ _ _ _)
                · intro vs w' hb hv K hK
                  have h5 : (Inv.MP.is (.slice (some ⟨gd, offd, none⟩) en dc)).p (vs 5) w' := hv 5 (by simp)
                  have h6 : (Inv.MP.is (.int .i64 (q2 : Nat))).p (vs 6) w' := hv 6 (by simp)
                  clear hv
                  have hK2 := hK.out
                  clear hK
                  simp only [Inv.putD, Inv.dst, List.foldl_cons, List.foldl_nil, List.getD_cons_zero, List.getD_cons_succ, Act.put, List.setIfInBounds_toArray, List.set_cons_zero, List.set_cons_succ, List.filterMap_cons, List.filterMap_nil, List.getElem?_toArray, List.getElem?_cons_zero, List.getElem?_cons_succ] at hK2 ⊢
                  have hK := Lib.hid hK2
                  clear hK2
                  generalize vs 5 = y5 at *
                  generalize vs 6 = y6 at *
                  have h5 : y5 = _ := h5
                  subst h5
                  have h6 : y6 = _ := h6
                  subst h6
                  simp only [Region.wanted, Inv.yieldedD, Inv.dst, List.getD_cons_zero, List.getD_cons_succ]
                  go_simp
                  refine hK.out _ _ (Eq.refl _) (Below.refl _ _) (Inv.noTies _ _ _ _ _)
                · intro vs w' hb hv K hK
                  have h7 : (Inv.MP.is (.pointer (some ⟨gd, offd + q2 * 2, none⟩))).p (vs 7) w' := hv 7 (by simp)
                  clear hv
                  have hK2 := hK.out
                  clear hK
                  simp only [Inv.putD, Inv.dst, List.foldl_cons, List.foldl_nil, List.getD_cons_zero, List.getD_cons_succ, Act.put, List.setIfInBounds_toArray, List.set_cons_zero, List.set_cons_succ, List.filterMap_cons, List.filterMap_nil, List.getElem?_toArray, List.getElem?_cons_zero, List.getElem?_cons_succ] at hK2 ⊢
                  have hK := Lib.hid hK2
                  clear hK2
                  generalize vs 7 = y7 at *
                  have h7 : y7 = _ := h7
                  subst h7
                  simp only [Region.wanted, Inv.yieldedD, Inv.dst, List.getD_cons_zero, List.getD_cons_succ]
                  go_simp
                  refine hK.out _ _ (Eq.refl _) (Below.refl _ _) (Inv.noTies _ _ _ _ _)
                · intro vs w' hb hv K hK
                  have h8 : (Inv.MP.is (.pointer (some ⟨gd, offd + q2 * 2, none⟩))).p (vs 8) w' := hv 8 (by simp)
                  clear hv
                  have hK2 := hK.out
                  clear hK
                  simp only [Inv.putD, Inv.dst, List.foldl_cons, List.foldl_nil, List.getD_cons_zero, List.getD_cons_succ, Act.put, List.setIfInBounds_toArray, List.set_cons_zero, List.set_cons_succ, List.filterMap_cons, List.filterMap_nil, List.getElem?_toArray, List.getElem?_cons_zero, List.getElem?_cons_succ] at hK2 ⊢
                  have hK := Lib.hid hK2
                  clear hK2
                  generalize vs 8 = y8 at *
                  have h8 : y8 = _ := h8
                  subst h8
                  have n9b := (hb.cell (p := ⟨gd, offd + q2 * 2, none⟩) (World.block_lt_of_cell? _ _ n9)).trans n9
                  simp only [Region.wanted, Inv.yieldedD, Inv.dst, List.getD_cons_zero, List.getD_cons_succ]
                  go_simp
                  refine hK.out _ _ (Eq.refl _) (Below.refl _ _) (Inv.noTies _ _ _ _ _)
                · intro vs w' hb hv K hK
                  clear hv
                  have hK2 := hK.out
                  clear hK
                  simp only [Inv.putD, Inv.dst, List.foldl_cons, List.foldl_nil, List.getD_cons_zero, List.getD_cons_succ, Act.put, List.setIfInBounds_toArray, List.set_cons_zero, List.set_cons_succ, List.filterMap_cons, List.filterMap_nil, List.getElem?_toArray, List.getElem?_cons_zero, List.getElem?_cons_succ] at hK2 ⊢
                  have hK := Lib.hid hK2
                  clear hK2
                  simp only [Region.wanted, Inv.yieldedD, Inv.dst, List.getD_cons_zero, List.getD_cons_succ]
                  go_simp
                  refine hK.out _ _ (Eq.refl _) (Below.refl _ _) (Inv.noTies _ _ _ _ _)
                · intro vs w' hb hv K hK
                  have h9 : (Inv.MP.is (.string e.name)).p (vs 9) w' := hv 9 (by simp)
                  have h10 : (Inv.MP.is (.int .i64 (q2 : Nat))).p (vs 10) w' := hv 10 (by simp)
                  clear hv
                  have hK2 := hK.out
                  clear hK
                  simp only [Inv.putD, Inv.dst, List.foldl_cons, List.foldl_nil, List.getD_cons_zero, List.getD_cons_succ, Act.put, List.setIfInBounds_toArray, List.set_cons_zero, List.set_cons_succ, List.filterMap_cons, List.filterMap_nil, List.getElem?_toArray, List.getElem?_cons_zero, List.getElem?_cons_succ] at hK2 ⊢
                  have hK := Lib.hid hK2
                  clear hK2
                  generalize vs 9 = y9 at *
                  generalize vs 10 = y10 at *
                  have h9 : y9 = _ := h9
                  subst h9
                  have h10 : y10 = _ := h10
                  subst h10
                  simp only [Region.wanted, Inv.yieldedD, Inv.dst, List.getD_cons_zero, List.getD_cons_succ]
                  go_simp
                  refine hK.out _ _ (Eq.refl _) (Below.refl _ _) (Inv.noTies _ _ _ _ _)
                · intro vs w' hb hv K hK
                  have h11 : (Inv.MP.is (.agg #[.string e.name, .int .i64 (q2 : Nat)])).p (vs 11) w' := hv 11 (by simp)
                  clear hv
                  have hK2 := hK.out
                  clear hK
                  simp only [Inv.putD, Inv.dst, List.foldl_cons, List.foldl_nil, List.getD_cons_zero, List.getD_cons_succ, Act.put, List.setIfInBounds_toArray, List.set_cons_zero, List.set_cons_succ, List.filterMap_cons, List.filterMap_nil, List.getElem?_toArray, List.getElem?_cons_zero, List.getElem?_cons_succ] at hK2 ⊢
                  have hK := Lib.hid hK2
                  clear hK2
                  generalize vs 11 = y11 at *
                  have h11 : y11 = _ := h11
                  subst h11
                  simp only [Region.wanted, Inv.yieldedD, Inv.dst, List.getD_cons_zero, List.getD_cons_succ]
                  go_simp
                  refine hK.out _ _ ⟨_, rfl, hb_new _ _⟩ (below_alloc _ _) (Inv.noTies _ _ _ _ _)
                · have h4 : vs 4 = .slice (da2) ds2.length dc2 := hv 4 (by simp)
                  have h12 : ∃ g, vs 12 = .slice (some ⟨g, 0, none⟩) 1 1 ∧ wq.heap[g]? = some (.cells #[.string e.name, .int .i64 (q2 : Nat)] 115 (0, 0)) := hv 12 (by simp)
                  clear hv htie
                  simp only [Inv.putD, Inv.dst, List.foldl_cons, List.foldl_nil, List.getD_cons_zero, List.getD_cons_succ, Act.put, List.setIfInBounds_toArray, List.set_cons_zero, List.set_cons_succ, List.filterMap_cons, List.filterMap_nil, List.getElem?_toArray, List.getElem?_cons_zero, List.getElem?_cons_succ]
                  generalize vs 1 = yy1 at *
                  generalize vs 2 = yy2 at *
                  generalize vs 3 = yy3 at *
                  generalize vs 4 = yy4 at *
                  generalize vs 5 = yy5 at *
                  generalize vs 6 = yy6 at *
                  generalize vs 7 = yy7 at *
                  generalize vs 8 = yy8 at *
                  generalize vs 9 = yy9 at *
                  generalize vs 10 = yy10 at *
                  generalize vs 11 = yy11 at *
                  generalize vs 12 = yy12 at *
                  obtain ⟨g12, rfl, hg12⟩ := h12
                  subst h4
                  have HRq := HR9.out.kept (w' := wq) fun _ _ _ _ _ hx => hb_below hx hbq (hb_lt hx)
                  have hbq0 := HB9.out.trans (hbq.mono HR09.out)
                  have hR0q : R0 ≤ wq.heap.size := Nat.le_trans HR09.out hbq.size
                  obtain ⟨v5, w5, hr5, ho5, hg5⟩ := append_en wq R0 _ ds2 ⟨e.name, q2⟩ HRq.dir g12 1 hg12 (by have := HL2.out; omega) hR0q
                  obtain ⟨a5, c5, hv5, _⟩ := own_sl ho5
                  rw [show (ds2 ++ [(⟨e.name, q2⟩ : En)]).length = ds2.length + 1 by simp] at hv5
                  subst hv5
                  obtain ⟨hR5, hF5⟩ := HRq.named hg5 ho5 hR0q (by show q2 < _; rw [List.length_append, HL1.out]; exact Nat.lt_succ_self _) (by rw [HL2.out]; exact Nat.le_refl _)
                  obtain ⟨fa5, pw5, off5, hs5⟩ := HRq.store
                  have hs5' := hb_grown hs5 hg5 (own_ne HRq.dir hs5 (fun cs f e2 => by simp at e2))
                  have f4 := hb_free hs5' 2
                  have c4 := hb_at hs5' 2 rfl
                  refine wpList_append_at rfl (.tmp 105) (.tmp 113) rfl rfl rfl rfl hr5 ?_
                  have HR5 := Lib.hid hR5
                  have HB5 := Lib.hid (hbq0.trans ((Below.ofRFrm hF5).mono (Nat.le_refl _)))
                  clear hr5 ho5 hg5 hR5 hF5 HRq hs5 hg12 hbq hs5' hbq0 n9
                  go_wp2
                  exact ⟨⟨q2 + 1, by go_num, by omega, Lib.hid ⟨_, _, _, _, HR5.out, by rw [List.length_append, HL1.out]; rfl, by rw [List.length_append, HL2.out]; rfl⟩, HB5⟩, by simp [intOf]; omega⟩
        · obtain rfl : q2 = en := by omega
          obtain ⟨fv2, dv2, fs2, ds2, hR2, hl1, hl2⟩ := HS.out
          obtain ⟨fa2, fc2, rfl, _⟩ := own_sl hR2.files
          obtain ⟨da2, dc2, rfl, _⟩ := own_sl hR2.dir
          obtain ⟨fa5, pw5, off5, hs5⟩ := hR2.store
          have hR0x : R0 ≤ wx.heap.size := by rw [← HR0.out]; exact HBX.out.size
          have hds : ds2.length + ([] : List RT).length ≤ q2 := by rw [hl2]; exact Nat.le_refl _
          have hds2 : ds2.length ≤ 200000 := by omega
          have HR2 := Lib.hid hR2
          have hsp : ∀ a, da2 = some a → a.spot = none := fun a ha => by
            rcases hR2.dir.2 with ⟨e, _⟩ | ⟨g, _, _, e, _⟩
            · subst ha; cases e
            · subst ha; cases e; rfl
          have hba : Below wx.heap.size wx (wx.alloc (.cells #[] 115)) := below_alloc wx _
          obtain ⟨v8, w8, hr8, he8, hb8⟩ := append_e0 (wx.alloc (.cells #[] 115)) R0 wx.heap.size da2 dc2 ds2 (hb_new wx _) hR0x ((ents_row hR2.dir).below hba) hsp hds2
          have hb8 := hba.trans (hb8.mono hba.size)
          obtain ⟨a8, c8, hv8, _⟩ := own_sl he8
          subst hv8
          obtain ⟨hR8, hF8⟩ := hR2.relast hb8 hR0x he8 hds hR2.fit.1
          have d2 : wx.cell? ⟨R0, 2, none⟩ = some (.slice da2 ds2.length dc2) := hb_at hs5 2 rfl
          have d2a : ∀ o, (wx.alloc o).cell? ⟨R0, 2, none⟩ = some (.slice da2 ds2.length dc2) := fun o => hb_at (hb_alloc hs5 o) 2 rfl
          have hs8 := hb_below hs5 hb8 (hb_lt hs5)
          have z8 := hb_free hs8 3
          have x8 := hb_at hs8 3 rfl
          have HR8 := Lib.hid (hR8.up HEK.out)
          have HF8 := Lib.hid (HBX.out.trans ((Below.ofRFrm hF8).mono (Nat.le_refl _)))
          clear hR2 hl1 hl2 hs5 hds hba he8 hb8 hR8 hF8 hs8 hsp
          go_wp2_with (first
            | (at_builtin; refine wpList_append_at rfl _ _ rfl rfl rfl rfl hr8 ?_)
            | go_in)
          go_ret
          exact ⟨_, _, _, _, _, _, _, rfl, ⟨R0, by rw [← HR0.out]; exact HBW.out.size, Nat.le_trans (Nat.le_of_eq HR0.out.symm) HF8.out.size, HR8.out⟩, HBW.out.trans (HF8.out.mono (by rw [← HR0.out]; exact HBW.out.size))⟩
end
end Go.Proofs.Ytmfphnhdahaooaa
/- The law's own functions: the bytes of a Write. -/
namespace Go.Proofs.Ytmfphnhdahaooaa
open Go.RowKit Go.Maps
set_option linter.unusedSimpArgs false
set_option linter.unusedVariables false
def BytesP (w : World) (e : Ending) (w' : World) : Prop := ∃ g l, e = .returned (.slice (some ⟨g, 0, none⟩) l.length l.length) ∧ l.length ≤ 3000 ∧ OneB l ∧ w.heap.size ≤ g ∧ w'.heap[g]? = some (.cells l.toArray 5 (0, 0)) ∧ Below w.heap.size w w'
theorem one_int {n : Int} (h0 : 0 ≤ n) (h1 : n < 256) : ∃ c : UInt8, Value.int .u8 n = .int .u8 (c.toNat : Nat) :=
  ⟨UInt8.ofNat n.toNat, by simp; omega⟩
theorem oneB_set {l : List Value} (h : OneB l) (q : Nat) {v : Value} (hv : ∃ c : UInt8, v = .int .u8 (c.toNat : Nat)) : OneB (l.set q v) := fun u hu => by
  rcases List.mem_or_eq_of_mem_set hu with h1 | rfl
  · exact h u h1
  · exact hv
set_option maxRecDepth 100000 in
set_option maxHeartbeats 4000000 in
theorem bytes_any (w : World) (kind at_ n by_ : Int) (name dst : ByteArray) (tv fv : Value) :
    Calls Try.prog 26 #[.agg #[.int .i64 kind, .string name, .string dst, .int .i64 at_, .int .i64 n, .int .u8 by_, tv, fv]] w (BytesP w) := by
  have hX := Lib.hid (hb_new w (.cells #[.int .i64 kind, .string name, .string dst, .int .i64 at_, .int .i64 n, .int .u8 by_, tv, fv] 39))
  have hB := Lib.hid (below_alloc w (.cells #[.int .i64 kind, .string name, .string dst, .int .i64 at_, .int .i64 n, .int .u8 by_, tv, fv] 39))
  go_enter Try.func26, Try.ntmps26
  go_upto_region 1 with fail
  generalize (w.alloc (.cells #[.int .i64 kind, .string name, .string dst, .int .i64 at_, .int .i64 n, .int .u8 by_, tv, fv] 39)) = w1 at *
  have x4 : w1.cell? ⟨w.heap.size, 4, none⟩ = some (.int .i64 n) := hb_at hX.out 4 rfl
  have hmk : ∀ (d : Nat), d ≤ 3000 → ∀ W : World, (Instr.makeSlice 45 (.int .i64 d) (.int .i64 d)).run Try.prog W = .ok (.slice (some ⟨W.heap.size, 0, none⟩) d d) (W.alloc (.cells (List.replicate d zb).toArray 5)) := fun d hd W => make_bytes2 d W (by omega)
  go_cut [3] (fun v wx => ∃ d : Nat, d ≤ 3000 ∧ v = .slice (some ⟨w1.heap.size, 0, none⟩) d d ∧ wx = w1.alloc (.cells (List.replicate d zb).toArray 5))
  case first =>
    obtain ⟨d, hd⟩ : ∃ d : Nat, max 0 (min n 3000) = (d : Int) := ⟨(max 0 (min n 3000)).toNat, by omega⟩
    have hd2 : d ≤ 3000 := by omega
    have hmk1 : ∀ W : World, (Instr.makeSlice 45 (.int .i64 (max 0 (min n 3000))) (.int .i64 (max 0 (min n 3000)))).run Try.prog W = .ok (.slice (some ⟨W.heap.size, 0, none⟩) d d) (W.alloc (.cells (List.replicate d zb).toArray 5)) := fun W => by rw [hd]; exact hmk d hd2 W
    clear hmk hd
    go_wp2_with fail
    go_meet
    exact ⟨d, hd2, rfl, by simp⟩
  case rest =>
  obtain ⟨d, hd, rfl, hwc⟩ := hcut
  have HG : RowKit.Hid (∃ l : List Value, wc.heap[w1.heap.size]? = some (.cells l.toArray 5 (0, 0)) ∧ l.length = d ∧ OneB l) := Lib.hid ⟨List.replicate d zb, by rw [hwc]; exact hb_new w1 _, by simp, fun u hu => ⟨0, by rw [List.eq_of_mem_replicate hu]; rfl⟩⟩
  have HBC : RowKit.Hid (Below w1.heap.size w1 wc) := Lib.hid (by rw [hwc]; exact below_alloc w1 _)
  have x5 : wc.cell? ⟨w.heap.size, 5, none⟩ = some (.int .u8 by_) := hb_at (hb_below hX.out HBC.out (hb_lt hX.out)) 5 rfl
  clear hmk x4 hwc
  go_upto_region 3 with fail
  go_loopw [12] (fun i wr => ∃ q : Nat, i = .int .i64 q ∧ q ≤ d ∧ RowKit.Hid (∃ l : List Value, wr.heap[w1.heap.size]? = some (.cells l.toArray 5 (0, 0)) ∧ l.length = d ∧ OneB l) ∧ RowKit.Hid (Below w1.heap.size w1 wr)) (fun i _ => d - (intOf i).toNat)
  case atStart => exact ⟨0, rfl, Nat.zero_le _, HG, HBC⟩
  case round =>
    obtain ⟨q, rfl, hq, HL, HBR⟩ := hrel
    obtain ⟨l, hl, hld, hlo⟩ := HL.out
    have hXr := hb_below hX.out HBR.out (hb_lt hX.out)
    have y5 : wr.cell? ⟨w.heap.size, 5, none⟩ = some (.int .u8 by_) := hb_at hXr 5 rfl
    clear hXr x5
    by_cases hlt : q < d
    · have z := hb_free hl q
      obtain ⟨u, hu⟩ : ∃ u, l[q]? = some u := ⟨_, List.getElem?_eq_getElem (by omega)⟩
      have y6 : wr.cell? ⟨w1.heap.size, q, none⟩ = some u := hb_at hl q (by rw [List.getElem?_toArray]; exact hu)
      have h3 := hb_set_same hl q (.int .u8 ((by_ + (q : Int) / 64) % 256))
      rw [List.setIfInBounds_toArray] at h3
      have H3 := Lib.hid h3
      have HB3 := Lib.hid (below_set (j := q) (v := .int .u8 ((by_ + (q : Int) / 64) % 256)) HBR.out (hb_lt hl))
      clear h3
      have HLD := Lib.hid hld
      have HLO := Lib.hid hlo
      clear hu hl hld hlo
      go_wp2
      exact ⟨⟨q + 1, by go_num, by omega, Lib.hid ⟨l.set q (.int .u8 ((by_ + (q : Int) / 64) % 256)), H3.out, by rw [List.length_set]; exact HLD.out, oneB_set HLO.out q (one_int (Int.emod_nonneg _ (by decide)) (Int.emod_lt_of_pos _ (by decide)))⟩, HB3⟩, by simp [intOf]; omega⟩
    · obtain rfl : q = d := by omega
      have HLL := Lib.hid hl
      have HLD := Lib.hid hld
      clear hl hld
      go_wp2
      go_ret
      exact ⟨w1.heap.size, l, by rw [HLD.out]; rfl, by rw [HLD.out]; exact hd, hlo, hB.out.size, HLL.out, hB.out.trans (HBR.out.mono hB.out.size)⟩
end Go.Proofs.Ytmfphnhdahaooaa
/- Two stores side by side: what one turns leaves the other as it was. -/
namespace Go.Proofs.Ytmfphnhdahaooaa
open Go.RowKit Go.Maps
theorem own_keptT {w w' : World} {B : Nat} {e : TypeId} {size n : Nat} {v : Value} {xs : List Value} (ho : w.ownsRow B e size v n xs) (hc : ∀ (b : Nat) (cs : Array Value) (f : Nat × Nat), w.heap[b]? = some (.cells cs e f) → w'.heap[b]? = some (.cells cs e f)) : w'.ownsRow B e size v n xs :=
  own_kept ho fun g x hg hx => by
    obtain ⟨cur, fr, hb⟩ := own_tag ho g hg
    rw [hb] at hx
    cases hx
    exact hc _ _ _ hb
/-- The document's store, behind a call of the program's. -/
theorem Ref.over {w w' : World} {B B2 r k : Nat} {cap : Int} {fv dv lv tv : Value} {fs : List RF} {ds ls : List En} {ts : List RT} (h : Ref w B r k cap fv dv lv tv fs ds ls ts) (hf : Frm B2 w w') : Ref w' B r k cap fv dv lv tv fs ds ls ts :=
  h.kept fun b cs t f ht hx => by
    rcases ht with rfl | rfl | rfl | rfl <;> exact hf.other b cs _ f (by decide) (by decide) (by decide) (by decide) hx
/-- The program's store, behind a call of the document's. -/
theorem Raw.over {w w' : World} {B B2 F N L n m : Nat} {A : Fs} {tv : Value} (h : Raw w B F A N L n m tv) (hf : RFrm B2 w w') : Raw w' B F A N L n m tv := by
  have hc : ∀ (b : Nat) (cs : Array Value) (t : TypeId) (f : Nat × Nat), t = 82 ∨ t = 85 ∨ t = 87 ∨ t = 5 → w.heap[b]? = some (.cells cs t f) → w'.heap[b]? = some (.cells cs t f) := fun b cs t f ht hx =>
    hf.other b _ (fun cs2 t2 f2 e => by
      cases e
      rcases ht with rfl | rfl | rfl | rfl <;> decide) hx
  have hm : ∀ (b : Nat) (es : Array MapEntry) (ck : Nat), w.heap[b]? = some (.map es ck) → w'.heap[b]? = some (.map es ck) := fun b es ck hx => hf.other b _ (fun cs2 t2 f2 e => by cases e) hx
  obtain ⟨es, ck, hN⟩ := h.names.heap
  obtain ⟨ls, cl, hL⟩ := h.lasts.heap
  exact ⟨hc _ _ _ _ (.inl rfl) h.store, h.names.same ((hm _ _ _ hN).trans hN.symm), h.lasts.same ((hm _ _ _ hL).trans hL.symm), h.two, own_keptT h.row fun b cs f hx => hc b cs _ f (.inr (.inr (.inl rfl))) hx, h.new,
    fun X f hX => ⟨(h.files X f hX).new, hc _ _ _ _ (.inr (.inl rfl)) (h.files X f hX).block, own_keptT (h.files X f hX).now fun b cs f hx => hc b cs _ f (.inr (.inr (.inr rfl))) hx, own_keptT (h.files X f hX).lasts fun b cs f hx => hc b cs _ f (.inr (.inr (.inr rfl))) hx, (h.files X f hX).small, (h.files X f hX).bytes⟩,
    h.lone, h.dirs, h.lastd, h.turn, h.caps, h.nums⟩
theorem Sto.over {w w' : World} {B B2 F k : Nat} {A : Fs} (h : Sto w B F A k) (hf : RFrm B2 w w') : Sto w' B F A k := by
  obtain ⟨N, L, n, m, tv, h1, h2⟩ := h
  exact ⟨N, L, n, m, tv, h1.over hf, h2⟩
theorem OneB.ints {l : List Value} (h : OneB l) : ∃ ns : List Int, l = ns.map (Value.int .u8) := by
  induction l with
  | nil => exact ⟨[], rfl⟩
  | cons a l ih =>
    obtain ⟨c, hc⟩ := h a (List.mem_cons_self ..)
    obtain ⟨ns, hn⟩ := ih fun u hu => h u (List.mem_cons_of_mem _ hu)
    exact ⟨(c.toNat : Nat) :: ns, by rw [hc, hn]; rfl⟩
/-- Bytes as a text. -/
theorem text_bytes (w : World) (g c : Nat) (l : List Value) (h : OneB l) (hg : w.heap[g]? = some (.cells l.toArray 5 (0, 0))) : ∃ z : ByteArray, z.size = l.length ∧ (convert 45 9 (.slice (some ⟨g, 0, none⟩) l.length c)).run Try.prog w = .ok (.string z) w := by
  obtain ⟨ns, rfl⟩ := h.ints
  refine ⟨ns.foldl (fun r n => r.push (UInt8.ofNat n.toNat)) ByteArray.empty, ?_, ?_⟩
  · rw [size_pushes, List.length_map]
    exact Nat.zero_add _
  · rw [run_convert_bytes_string _ 45 9 5 _ _ _ Try.underlying45 Try.underlying5 Try.underlying9]
    have hl := run_loadCells_list (P := Try.prog) (w := w) ⟨g, 0, none⟩ (ns.map (Value.int .u8)) fun j v hj => by
      rw [show (⟨g, 0, none⟩ : Addr).add j = ⟨g, j, none⟩ by unfold Addr.add; by_cases h0 : j = 0 <;> simp [h0]]
      exact hb_at hg j (by rw [List.getElem?_toArray]; exact hj)
    rw [run_bytesToString _ ⟨g, 0, none⟩ _ c ns hl]
/-- What a crash leaves, as a store with the bound that it had. -/
theorem CrashP.sto {nb k : Nat} {gt : ByteArray → Option Sv} {gd : ByteArray → Option Nat} {A : Fs} {w w' : World} {e : Ending} (h : CrashP nb gt gd A w e w') (hk : nb ≤ k) :
    ∃ B2 F2 A' j, e = .returned (.pointer (some ⟨F2, 0, none⟩)) ∧ w.heap.size ≤ B2 ∧ Sto w' B2 F2 A' k ∧ Crashed gt gd A (fun _ => false) A' j ∧ A'.last = A'.dir ∧ Below w.heap.size w w' := by
  obtain ⟨B2, F2, N2, L2, j, A', he, hB, hR, hj, hC, hl, hb⟩ := h
  refine ⟨B2, F2, A', j, he, hB, ⟨N2, L2, j, j, _, hR, by omega, by rw [hC.turns]; simp; omega, by have := hC.used.1; omega, by have := hC.used.2; omega⟩, hC, hl, hb⟩
theorem Sto.up {w : World} {B F k k' : Nat} {A : Fs} (h : Sto w B F A k) (hk : k ≤ k') : Sto w B F A k' := by
  obtain ⟨N, L, n, m, tv, h1, h2, h3, h4, h5⟩ := h
  exact ⟨N, L, n, m, tv, h1, by omega, by omega, by omega, by omega⟩
end Go.Proofs.Ytmfphnhdahaooaa
