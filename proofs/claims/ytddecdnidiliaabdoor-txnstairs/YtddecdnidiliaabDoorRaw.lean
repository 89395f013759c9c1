/- What the Writer's Raw does: it puts the bytes behind those that the Writer has. -/
import Derived.Test.YtddecdnidiliaabDoorWriter
namespace Go.Proofs.YtddecdnidiliaabDoor
open Go.RowKit
set_option maxRecDepth 8000

set_option maxHeartbeats 400000 in
theorem wRaw_any (g : Nat) (v u : Value) (xs ys : List Int) (w : World) (h : IsW w g v xs) (hu : Sees w u ys) (hb : xs.length + ys.length ≤ 140737488355328) :
    Calls Tryd.prog 81 #[.pointer (some ⟨g, 0, none⟩), u] w fun e w' => e = .returned (.tuple #[]) ∧ Puts w g v (xs ++ ys) w' := by
  have H : Hid (IsW w g v xs ∧ Sees w u ys) := ⟨h, hu⟩
  clear h hu
  go_enter Tryd.func81, Tryd.ntmps81
  go_wp2_with fail
  refine (add_any g v u xs ys _ H.out.1 H.out.2 hb).mono ?_
  rintro e w1 ⟨rfl, hp⟩
  have HP : Hid (Puts w g v (xs ++ ys) w1) := hp
  clear hp
  go_wp2
  go_end0
  exact ⟨rfl, HP.out⟩

end Go.Proofs.YtddecdnidiliaabDoor
