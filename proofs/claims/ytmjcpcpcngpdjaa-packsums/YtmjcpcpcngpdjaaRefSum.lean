/- What the document's own Sum (lagoonref01) answers: the Adler-32 sum of the bytes that it is given. -/
import Derived.Test.YtmjcpcpcngpdjaaProg
import Derived.Test.YtmjcpcpcngpdjaaBase
namespace Go.Proofs.Ytmjcpcpcngpdjaa
open Go.RowKit

set_option maxHeartbeats 400000 in
theorem refSum_any (v : Value) (xs : List Int) (w : World) (h : Sees w v xs) (hb : Byts xs) :
    Calls Try.prog 22 #[v] w fun e w' => e = .returned (.int .u32 (adler xs)) ∧ w' = w := by
  obtain ⟨ao, cap, rfl, hlc, hcm, _, h3⟩ := h
  unfold maxLen at hcm
  go_enter Try.func22, Try.ntmps22
  go_wp2
  go_loop [3, 4, 5] (fun lo hi i => ∃ k : Nat, k ≤ xs.length ∧ i = .int .i64 k ∧ lo = .int .i64 (adl (xs.take k)).1 ∧ hi = .int .i64 (adl (xs.take k)).2) (fun _ _ i => xs.length - (intOf i).toNat)
  case atStart => exact ⟨0, Nat.zero_le _, rfl, rfl, rfl⟩
  case round =>
    obtain ⟨k, hk, rfl, rfl, rfl⟩ := hrel
    have hd := adl_bd (xs.take k)
    by_cases hlt : k < xs.length
    · rcases h3 with h3 | ⟨b, off, rfl, h3⟩
      · subst h3; simp at hlt
      · have hc := h3 k hlt
        have hx := hb.nth k
        have HS : Hid _ := adl_next xs k hlt
        generalize xs.getD k 0 = x at *
        generalize hA : (adl (xs.take k)).1 = A at *
        generalize hB : (adl (xs.take k)).2 = B at *
        clear hA hB h3 hb
        go_wp2
        go_loop [3] (fun a => ∃ m : Int, 0 ≤ m ∧ m ≤ 65775 ∧ m % 65521 = (A + x) % 65521 ∧ a = .int .i64 m) (fun a => (intOf a).toNat)
        case atStart => exact ⟨A + x, by omega, by omega, rfl, rfl⟩
        case round =>
          obtain ⟨m, hm0, hm1, hm2, rfl⟩ := hrel
          have H2 : Hid _ := hm2
          clear hm2
          by_cases hm : m < 65521
          · go_wp2
            go_round
            have hm2 := H2.out
            case rel => exact ⟨k + 1, by omega, by go_num, by rw [HS.out.1, ← H2.out, Int.emod_eq_of_lt hm0 hm], by rw [HS.out.2, ← H2.out, Int.emod_eq_of_lt hm0 hm]⟩
            case measure => simp [intOf]; omega
          · go_wp2
            go_round
            case rel => exact ⟨m - 65521, by omega, by omega, by have := H2.out; omega, rfl⟩
            case measure => simp [intOf]; omega
    · obtain rfl : k = xs.length := by omega
      rw [List.take_length] at *
      go_wp2
      go_ret
      exact ⟨ret_int (by unfold adler; omega), rfl⟩

end Go.Proofs.Ytmjcpcpcngpdjaa
