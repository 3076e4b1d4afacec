/- Contract: Compare of two versions. -/
import Derived.Test.YtmgnbpgcbehidaaA2
namespace Go.Proofs.Ytmgnbpgcbehidaa
open Go.RowKit
theorem hb_new_drew (w : World) (o : Obj) : (w.alloc o).drew.heap[w.heap.size]? = some o := hb_new w o
set_option maxHeartbeats 1000000 in
theorem cmp_any (x y : Sv.V) (w : World) : Calls Try.prog 7 #[vv x, vv y] w fun e w' => e = .returned (.int .i64 (Sv.cmp x y)) ∧ Below w.heap.size w w' := by
  have HC := Lib.hid (Sv.cmp_or x y)
  have k1 := hb_alloc (hb_new w (.cells #[.int .i64 x.a, .int .i64 x.b, .int .i64 x.c] 23)) (.cells #[.int .i64 y.a, .int .i64 y.b, .int .i64 y.c] 23)
  have k2 := hb_new (w.alloc (.cells #[.int .i64 x.a, .int .i64 x.b, .int .i64 x.c] 23)) (.cells #[.int .i64 y.a, .int .i64 y.b, .int .i64 y.c] 23)
  rw [World.size_alloc] at k2
  have K1 := Lib.hid k1
  have K2 := Lib.hid k2
  clear k1 k2
  go_enter Try.func7, Try.ntmps7
  go_wp2
  generalize hW : (w.alloc (.cells #[.int .i64 x.a, .int .i64 x.b, .int .i64 x.c] 23)).alloc (.cells #[.int .i64 y.a, .int .i64 y.b, .int .i64 y.c] 23) = W at *
  have k1 := K1.out
  have k2 := K2.out
  have a0 := hb_at k1 0 rfl
  have a1 := hb_at k1 1 rfl
  have a2 := hb_at k1 2 rfl
  have b0 := hb_at k2 0 rfl
  have b1 := hb_at k2 1 rfl
  have b2 := hb_at k2 2 rfl
  clear k1 k2
  have HW := Lib.hid hW
  clear hW
  have nk : ∀ a : World, a.heap.size + 1 = a.heap.size + 1 := fun _ => rfl
  clear nk
  go_region_held3 (fun w' => w'.cell? ⟨w.heap.size, 0, none⟩ = some (.int .i64 x.a) ∧ w'.cell? ⟨w.heap.size, 1, none⟩ = some (.int .i64 x.b) ∧ w'.cell? ⟨w.heap.size, 2, none⟩ = some (.int .i64 x.c) ∧ w'.cell? ⟨w.heap.size + 1, 0, none⟩ = some (.int .i64 y.a) ∧ w'.cell? ⟨w.heap.size + 1, 1, none⟩ = some (.int .i64 y.b) ∧ w'.cell? ⟨w.heap.size + 1, 2, none⟩ = some (.int .i64 y.c)) (first | exact ⟨a0, a1, a2, b0, b1, b2⟩ | go_keep) (first
    | (go_at_call 24; ((with_reducible refine (cmpI_any _ _ _).mono ?_); rintro e w1 ⟨rfl, rfl⟩))
    | (go_at_call 23; ((with_reducible refine (or_any (Sv.cmpI x.a y.a) (Sv.cmpI x.b y.b) (Sv.cmpI x.c y.c) _ _ (hb_new_drew W _)).mono ?_); rintro e w1 ⟨rfl, rfl⟩)))
  go_wp2
  go_ret
  have hb : Below w.heap.size w W := by rw [← HW.out]; exact below2 w _ _
  exact ⟨ret_int HC.out, below_drewN (hb.alloc hb.size _) 1⟩
end Go.Proofs.Ytmgnbpgcbehidaa
