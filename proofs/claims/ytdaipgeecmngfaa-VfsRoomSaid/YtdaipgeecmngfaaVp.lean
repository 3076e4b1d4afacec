/- Read of the file a behind a crash: no byte, or the one byte that survived. -/
import Derived.Test.YtdaipgeecmngfaaVo
namespace Go.Proofs.Ytdaipgeecmngfaa
open Go.RowKit Go.Maps

theorem nameA : ∀ (k : Nat) (hk : k < (⟨#[97]⟩ : ByteArray).size), NameB (⟨#[97]⟩ : ByteArray)[k] := by
  intro k hk
  have h0 : k = 0 := by
    have : (⟨#[97]⟩ : ByteArray).size = 1 := rfl
    omega
  subst h0
  exact (.inl ⟨by decide, by decide⟩ : NameB 97)

set_option maxRecDepth 100000 in
set_option maxHeartbeats 1000000 in
theorem read_nil (F N L X cap used clock : Nat) (lv tv : Value) (w : World) (hc : 0 < cap) (hF : w.heap[F]? = some (.cells (fsCells cap used N L tv) 82 (0, 0)))
    (hN : w.heap[N]? = some (.map #[⟨.string ⟨#[97]⟩, .pointer (some ⟨X, 0, none⟩), 0⟩] clock)) (hX : w.heap[X]? = some (.cells #[.slice none 0 0, lv] 85 (0, 0))) :
    Calls Try.prog 19 #[.pointer (some ⟨F, 0, none⟩), .string ⟨#[97]⟩] w fun e w' => e = .returned (.tuple #[.slice none 0 0, .int .i64 0]) ∧ w' = w := by
  have c0 : w.cell? ⟨F, 0, none⟩ = some (.int .i64 cap) := hb_at hF 0 rfl
  have c2 : w.cell? ⟨F, 2, none⟩ = some (.map (some N)) := hb_at hF 2 rfl
  have c7 : w.cell? ⟨F, 7, none⟩ = some (.bool false) := hb_at hF 7 rfl
  have x0 : w.cell? ⟨X, 0, none⟩ = some (.slice none 0 0) := hb_at hX 0 rfl
  have HN := Lib.hid hN
  clear hF hN hX
  go_enter Try.func19, Try.ntmps19
  go_wp2_with (first
    | (go_at_call 46; refine (made_yes F cap hc _ (by assumption)).mono ?_; rintro e w' ⟨rfl, rfl⟩)
    | (go_at_call 48; refine (isName_ok ⟨#[97]⟩ _ (by decide) (by decide) nameA).mono ?_; rintro e w' ⟨rfl, rfl⟩)
    | (at_lookup; refine wpList_look_raw _ rfl _ _ 79 true rfl 9 78 Try.underlying79 N _ clock rfl HN.out _ rfl (ck9 _ _ _) _ (find9_a _ _ _) _ (zero78 _) (.tuple #[.pointer (some ⟨X, 0, none⟩), .bool true]) rfl ?_)
    | (go_at_call 45; refine (bclone_nil _).mono ?_; rintro e w' ⟨rfl, rfl⟩)
    | go_in)
  go_ret2
  exact ⟨rfl, rfl⟩

set_option maxRecDepth 100000 in
set_option maxHeartbeats 1000000 in
theorem read_one (F N L X cap used clock g c : Nat) (lv tv : Value) (u : Int) (w : World) (hc : 0 < cap) (hF : w.heap[F]? = some (.cells (fsCells cap used N L tv) 82 (0, 0)))
    (hN : w.heap[N]? = some (.map #[⟨.string ⟨#[97]⟩, .pointer (some ⟨X, 0, none⟩), 0⟩] clock)) (hX : w.heap[X]? = some (.cells #[.slice (some ⟨g, 0, none⟩) 1 c, lv] 85 (0, 0)))
    (hB : w.ownsRow 0 5 1 (.slice (some ⟨g, 0, none⟩) 1 c) 1 [.int .u8 u]) :
    Calls Try.prog 19 #[.pointer (some ⟨F, 0, none⟩), .string ⟨#[97]⟩] w fun e w' => ∃ g2 c2, e = .returned (.tuple #[.slice (some ⟨g2, 0, none⟩) 1 c2, .int .i64 0]) ∧ NewRow (.slice (some ⟨g2, 0, none⟩) 1 c2) 1 [.int .u8 u] w w' := by
  have c0 : w.cell? ⟨F, 0, none⟩ = some (.int .i64 cap) := hb_at hF 0 rfl
  have c2 : w.cell? ⟨F, 2, none⟩ = some (.map (some N)) := hb_at hF 2 rfl
  have c7 : w.cell? ⟨F, 7, none⟩ = some (.bool false) := hb_at hF 7 rfl
  have x0 : w.cell? ⟨X, 0, none⟩ = some (.slice (some ⟨g, 0, none⟩) 1 c) := hb_at hX 0 rfl
  have HN := Lib.hid hN
  have HB := Lib.hid hB
  clear hF hN hX hB
  go_enter Try.func19, Try.ntmps19
  go_wp2_with (first
    | (go_at_call 46; refine (made_yes F cap hc _ (by assumption)).mono ?_; rintro e w' ⟨rfl, rfl⟩)
    | (go_at_call 48; refine (isName_ok ⟨#[97]⟩ _ (by decide) (by decide) nameA).mono ?_; rintro e w' ⟨rfl, rfl⟩)
    | (at_lookup; refine wpList_look_raw _ rfl _ _ 79 true rfl 9 78 Try.underlying79 N _ clock rfl HN.out _ rfl (ck9 _ _ _) _ (find9_a _ _ _) _ (zero78 _) (.tuple #[.pointer (some ⟨X, 0, none⟩), .bool true]) rfl ?_)
    | (go_at_call 45; refine (bclone_form g 1 c [.int .u8 u] _ HB.out (by decide) (by decide) (by simp [Value.oneCell'])).mono ?_; rintro e w' ⟨g2, d2, rfl, h2⟩)
    | go_in)
  go_ret2
  exact ⟨_, _, rfl, h2⟩
end Go.Proofs.Ytdaipgeecmngfaa
