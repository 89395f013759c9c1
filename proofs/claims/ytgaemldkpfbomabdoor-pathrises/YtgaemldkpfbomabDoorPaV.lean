/- What 'lives' of the statements answers: true. -/
import Derived.Test.YtgaemldkpfbomabDoorPaU
namespace Go.Proofs.YtgaemldkpfbomabDoor
open Go.RowKit Go.Shelf
set_option maxRecDepth 8000

theorem name_one (b : UInt8) (h1 : b.toNat < 128) (h2 : stand b.toNat = true) (h3 : b ≠ 46) : NameOK [b] := by
  refine ⟨?_, ?_⟩
  · unfold nf; rw [if_neg (by simp), if_neg (by simp [h3])]
  · rw [rf_ascii b [] h1 h2, rf_nil]; rfl

theorem path_ab : isPb [47, 97, 47, 98] = true := by
  rw [isPb_iff (by decide)]
  refine .inr ⟨[97, 47, 98], rfl, by decide, fun s hs => ?_⟩
  have e : segs [97, 47, 98] = [[97], [98]] := by decide
  rw [e] at hs
  simp only [List.mem_cons, List.not_mem_nil, or_false] at hs
  rcases hs with rfl | rfl
  · exact name_one _ (by decide) (by decide) (by decide)
  · exact name_one _ (by decide) (by decide) (by decide)

theorem path_a : isPb [47, 97] = true := by
  rw [isPb_iff (by decide)]
  refine .inr ⟨[97], rfl, by decide, fun s hs => ?_⟩
  have e : segs [97] = [[97]] := by decide
  rw [e] at hs
  simp only [List.mem_cons, List.not_mem_nil, or_false] at hs
  subst hs
  exact name_one _ (by decide) (by decide) (by decide)

theorem name_b : nmB [98] = true := by
  rw [nmB_iff]
  exact ⟨name_one _ (by decide) (by decide) (by decide), by simp [NoSlash]⟩

set_option maxHeartbeats 1000000 in
theorem lives_any (w : World) : Calls Tryd.prog 5 #[] w fun e w' => e = .returned (.bool true) ∧ Below w.heap.size w w' := by
  have H1 : Hid (∀ w, Calls Tryd.prog 7 #[.string ⟨#[47, 97, 47, 98]⟩] w fun e w' => e = .returned (.tuple #[.int .i64 0, .int .i64 0]) ∧ Below w.heap.size w w') := fun w => by
    have := check_any ⟨#[47, 97, 47, 98]⟩ w (by decide)
    rw [show (⟨#[47, 97, 47, 98]⟩ : ByteArray).data.toList = [47, 97, 47, 98] from rfl, path_ab, if_pos rfl] at this
    exact this
  have H2 : Hid (∀ w, Calls Tryd.prog 8 #[.string ⟨#[47, 97, 47, 98]⟩] w fun e w' => e = .returned (.string ⟨#[47, 97]⟩) ∧ Below w.heap.size w w') := fun w => by
    have := parent_any ⟨#[47, 97, 47, 98]⟩ w (by decide)
    rw [show (⟨#[47, 97, 47, 98]⟩ : ByteArray).data.toList = [47, 97, 47, 98] from rfl] at this
    have e : parL [47, 97, 47, 98] = [47, 97] := by
      unfold parL; rw [path_ab, if_neg (by decide)]; decide
    rw [e] at this
    exact this
  have H3 : Hid (∀ w, Calls Tryd.prog 9 #[.string ⟨#[47, 97, 47, 98]⟩] w fun e w' => e = .returned (.string ⟨#[98]⟩) ∧ Below w.heap.size w w') := fun w => by
    have := base_any ⟨#[47, 97, 47, 98]⟩ w (by decide)
    rw [show (⟨#[47, 97, 47, 98]⟩ : ByteArray).data.toList = [47, 97, 47, 98] from rfl] at this
    have e : basL [47, 97, 47, 98] = [98] := by
      unfold basL; rw [path_ab, if_neg (by decide)]; decide
    rw [e] at this
    exact this
  have H4 : Hid (∀ w, Calls Tryd.prog 10 #[.string ⟨#[47, 97]⟩, .string ⟨#[98]⟩] w fun e w' => e = .returned (.tuple #[.string ⟨#[47, 97, 47, 98]⟩, .int .i64 0]) ∧ Below w.heap.size w w') := fun w => by
    have := join_any ⟨#[47, 97]⟩ ⟨#[98]⟩ w (by decide) (by decide)
    rw [show (⟨#[47, 97]⟩ : ByteArray).data.toList = [47, 97] from rfl, show (⟨#[98]⟩ : ByteArray).data.toList = [98] from rfl] at this
    have e : joinV [47, 97] [98] = .tuple #[.string ⟨#[47, 97, 47, 98]⟩, .int .i64 0] := by
      unfold joinV
      have ej : jn [47, 97] [98] = [47, 97, 47, 98] := by decide
      rw [ej, path_ab, path_a, name_b]
      rfl
    rw [e] at this
    exact this
  go_enter Tryd.func5, Tryd.ntmps5
  go_wp2_with (first
    | (go_at_call 7; refine (H1.out _).mono ?_; rintro e w1 ⟨rfl, hb1⟩)
    | (go_at_call 8; refine (H2.out _).mono ?_; rintro e w2 ⟨rfl, hb2⟩)
    | (go_at_call 9; refine (H3.out _).mono ?_; rintro e w3 ⟨rfl, hb3⟩)
    | (go_at_call 10; refine (H4.out _).mono ?_; rintro e w4 ⟨rfl, hb4⟩))
  go_ret
  have h12 := hb1.trans (hb2.mono hb1.size)
  have h13 := h12.trans (hb3.mono h12.size)
  exact ⟨rfl, h13.trans (hb4.mono h13.size)⟩

end Go.Proofs.YtgaemldkpfbomabDoor
