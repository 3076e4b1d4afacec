
/- A text's bytes are put behind bytes of the call's own. -/
import Derived.Test.YtfbfdkjimoomlaaC5
import Derived.Deep.AppendSrc
namespace Go.Proofs.Ytfbfdkjimoomlaa
open Go.RowKit

theorem byteCells_eq (s : ByteArray) : byteCells s = bytesV s.data.toList := rfl

theorem run_append_str (w : World) (base : Nat) (ty : TypeId) (i : TypeInfo) (hi : Try.prog.info? 5 = some i) (hz : i.zero = some (.int .u8 0)) (hsize : i.size = 1) (hby : i.bytes = 1)
    (v : Value) (n : Nat) (xs : List Value) (hown : w.ownsRow base 5 1 v n xs) (s : ByteArray) (h63 : n + s.size ≤ 140737488355328) (hbase : base ≤ w.heap.size) :
    ∃ v' w', (Builtin.append_ #[93, 9] ty #[v, .string s]).run Try.prog w = .ok v' w' ∧ w'.ownsRow base 5 1 v' (n + s.size) (xs ++ bytesV s.data.toList) ∧ w.grownBy w' v.ownBlock := by
  have hS := Src.ofString (P := Try.prog) w Try.underlying9 s
  have hlen : (xs ++ bytesV s.data.toList).length = (n + s.size) * 1 := by
    rw [List.length_append, hown.1, bytesV_len, Array.length_toList]
    show n * 1 + s.size = _
    omega
  have hnl : (bytesV s.data.toList).length = s.size := byteCells_length s
  have grown : ∀ (old : Nat) (row : Option Nat), old < n + s.size →
      (w.drew.alloc (.cells ((xs ++ bytesV s.data.toList).toArray ++ Builtin.zeroCells (Value.int .u8 0).cells (grownCap w (n + s.size) old 5 - (n + s.size))) 5)).ownsRow base 5 1
        (.slice (some ⟨w.heap.size, 0, none⟩) (n + s.size) (grownCap w (n + s.size) old 5)) (n + s.size) (xs ++ bytesV s.data.toList) ∧
      w.grownBy (w.drew.alloc (.cells ((xs ++ bytesV s.data.toList).toArray ++ Builtin.zeroCells (Value.int .u8 0).cells (grownCap w (n + s.size) old 5 - (n + s.size))) 5)) row := by
    intro old row ho
    have hge := grownCap_ge w (n + s.size) old 5
    have hcm : grownCap w (n + s.size) old 5 ≤ maxLen := grownCap_le_maxLen w (n + s.size) old 5 (by unfold maxLen; omega)
    refine ⟨⟨hlen, .inr ⟨w.heap.size, _, _, rfl, hbase, heap_alloc_new w.drew _, hge, hcm, ?_, ?_⟩⟩, ⟨rfl, rfl, rfl, by simp, fun k hk _ => Below.heap_alloc w.drew _ k hk⟩⟩
    · simp only [Array.size_append, List.size_toArray, size_zeroCells, hlen]
      have : (Value.int IntKind.u8 0).cells.size = 1 := rfl
      rw [this]
      omega
    · simp only [Array.toList_append]
      rw [← hlen]
      exact List.take_left
  rcases hown.2 with ⟨rfl, rfl⟩ | ⟨g, cap, cur, rfl, hbg, hg, hnc, hcm, hcs, htake⟩
  · have hx : xs = [] := List.eq_nil_of_length_eq_zero (by simpa using hown.1)
    subst hx
    by_cases hm : s.size = 0
    · have hn : bytesV s.data.toList = [] := List.eq_nil_of_length_eq_zero (by rw [hnl, hm])
      refine ⟨.slice none 0 0, w, ?_, ?_, ⟨rfl, rfl, rfl, Nat.le_refl _, fun _ _ _ => rfl⟩⟩
      · have hc := hS.cells
        rw [hm] at hc
        rw [byteCells_eq, hn] at hc
        simp [Builtin.append_, run_underlying Try.underlying93, run_underlying Try.underlying9, sizeOf, typeInfo, hi, Builtin.lenOf, hm, hsize, hc, storeCells]
      · rw [hn, hm]
        exact World.ownsRow_nil w base 5 1
    · have hr := run_append_grow_src (P := Try.prog) w 93 9 ty 5 i _ Try.underlying93 hi hz none 0 0 [] (by rw [hsize]; exact run_firstCells_none w.drew 1 0 0 0) (.string s) s.size _ (by rw [hsize]; exact hS) (by omega) (by omega)
        (by rw [hby]; exact growslice_fits (by omega) (by omega))
      rw [byteCells_eq] at hr
      have hgr := grown 0 none (by omega)
      exact ⟨_, _, hr, hgr.1, hgr.2⟩
  · by_cases hroom : n + s.size ≤ cap
    · have hf := hS.cells
      rw [byteCells_eq] at hf
      have hst := run_storeCells_at Try.prog g n 5 (bytesV s.data.toList) 0 cur w hg (by omega) (bytesV_one _)
      simp only [Nat.add_zero] at hst
      have hr : (Builtin.append_ #[93, 9] ty #[.slice (some ⟨g, 0, none⟩) n cap, .string s]).run Try.prog w =
          .ok (.slice (some ⟨g, 0, none⟩) (n + s.size) cap) (w.setRow g (cur.toList.take n ++ bytesV s.data.toList ++ cur.toList.drop (n + (bytesV s.data.toList).length)).toArray) := by
        simp [Builtin.append_, run_underlying Try.underlying93, run_underlying Try.underlying9, sizeOf, typeInfo, hi, Builtin.lenOf, hroom, hf, Addr.add_lit, hst, hsize]
      refine ⟨_, _, hr, ⟨hlen, .inr ⟨g, cap, _, rfl, hbg, setRow_heap w g cur _ 5 _ hg, hroom, hcm, ?_, ?_⟩⟩, ⟨rfl, rfl, rfl, by simp, fun k _ hk => setRow_other w g k _ (fun e => hk (by simp [Value.ownBlock, e]))⟩⟩
      · simp only [List.size_toArray, List.length_append, List.length_take, List.length_drop, Array.length_toList, hnl]
        omega
      · have ht : cur.toList.take n = xs := by simpa using htake
        rw [ht, ← hlen]
        exact List.take_left
    · have holds : ∀ j u, xs[j]? = some u → w.cell? ((⟨g, 0, none⟩ : Addr).add j) = some u := hown.cells (g := g) rfl
      have hr := run_append_grow_src (P := Try.prog) w 93 9 ty 5 i _ Try.underlying93 hi hz (some ⟨g, 0, none⟩) n cap xs (by rw [hsize]; exact run_firstCells_some w.drew 1 n ⟨g, 0, none⟩ n cap xs hown.1 (by simpa using holds)) (.string s) s.size _ (by rw [hsize]; exact hS) (by omega) (by omega)
        (by rw [hby]; exact growslice_fits (by omega) (by omega))
      rw [byteCells_eq] at hr
      have hgr := grown cap (Value.ownBlock (.slice (some ⟨g, 0, none⟩) n cap)) (by omega)
      exact ⟨_, _, hr, hgr.1, hgr.2⟩

theorem wpList_append_str {ops : Array Oper} {rest : List Oper} {o : Oper} {a : Act} {w : World} {Q : Exit → Act → World → Prop} (hgd : o.guard = none) (s x : Operand)
    (ho : o.op = .call { callee := .builtin .append, args := #[s, x], argTypes := #[93, 9] })
    (base : Nat) (i : TypeInfo) (hi : Try.prog.info? 5 = some i) (hz : i.zero = some (.int .u8 0)) (hsize : i.size = 1) (hby : i.bytes = 1)
    (v : Value) (n : Nat) (xs : List Value) (hs : a.eval s = v) (hown : w.ownsRow base 5 1 v n xs) (t : ByteArray) (hx : a.eval x = .string t)
    (h63 : n + t.size ≤ 140737488355328) (hbase : base ≤ w.heap.size)
    (h : ∀ v' w', w'.ownsRow base 5 1 v' (n + t.size) (xs ++ bytesV t.data.toList) → w.grownBy w' v.ownBlock → wpList Try.prog ops Q rest (a.put o.dst v') w') : wpList Try.prog ops Q (o :: rest) a w :=
  wpList_plain hgd fun _ hK => by
    obtain ⟨v', w', hr, h2, h3⟩ := run_append_str w base o.type i hi hz hsize hby v n xs hown t h63 hbase
    unfold Oper.wp execOp
    simp only [ho, resolve, invoke, builtin, Sem.run_bind, Sem.run_pure, Result.andThen_ok, List.map_toArray, List.map_cons, List.map_nil, hs, hx, hr]
    exact hK _ _ (h v' w' h2 h3)
end Go.Proofs.Ytfbfdkjimoomlaa
