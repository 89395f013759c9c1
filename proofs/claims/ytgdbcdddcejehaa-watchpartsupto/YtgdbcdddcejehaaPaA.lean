/- What path's mayStand, runeFault and sizeFault answer. -/
import Derived.Test.YtgdbcdddcejehaaPaQ
import Derived.Test.YtgdbcdddcejehaaMem
import Derived.Test.YtgdbcdddcejehaaChecked
import Derived.Lib.OthersKept
import Derived.BigQuiet
import Derived.Deep.QuietTactic
namespace Go.Proofs.Ytgdbcdddcejehaa
open Go.RowKit
set_option maxRecDepth 8000

def standI (c : Int) : Bool := decide (31 < c ∧ (c < 127 ∨ 159 < c) ∧ (c < 57344 ∨ 63743 < c) ∧ (c < 65520 ∨ 65535 < c))

theorem standI_nat (c : Nat) : standI c = stand c := by
  unfold standI stand
  rw [Bool.eq_iff_iff]
  simp only [decide_eq_true_eq, Bool.and_eq_true, Bool.or_eq_true]
  omega

theorem mayStandI (c : Int) (w : World) : Calls Try.prog 47 #[.int .i32 c] w fun e w' => e = .returned (.bool (standI c)) ∧ w' = w := by
  go_enter Try.func47, Try.ntmps47
  go_wp2
  all_goals (go_ret; refine ⟨?_, rfl⟩; refine congrArg (fun b => Ending.returned (Value.bool b)) ?_; unfold standI; rw [Bool.eq_iff_iff]; simp only [decide_eq_true_eq, Bool.and_eq_true, Bool.or_eq_true, Bool.false_eq_true, true_iff, false_iff])
  all_goals omega

theorem mayStand_any (c : Nat) (w : World) : Calls Try.prog 47 #[.int .i32 (c : Int)] w fun e w' => e = .returned (.bool (stand c)) ∧ w' = w := by
  rw [← standI_nat]; exact mayStandI c w

/-- A place, or sound. -/
def plc (o : Option Nat) : Int := ((o.getD sound : Nat) : Int)

theorem sizeFault_any (s : ByteArray) (w : World) : Calls Try.prog 45 #[.string s] w fun e w' => e = .returned (.int .i64 (plc (sizeF s.data.toList))) ∧ w' = w := by
  have hl := size_list s
  by_cases h : 64 < s.size
  · have e : plc (sizeF s.data.toList) = 64 := by unfold sizeF; rw [if_pos (by omega)]; rfl
    rw [e]
    clear hl e
    go_enter Try.func45, Try.ntmps45
    go_wp2
    go_ret
    exact ⟨rfl, rfl⟩
  · have e : plc (sizeF s.data.toList) = 9223372036854775807 := by unfold sizeF; rw [if_neg (by omega)]; rfl
    rw [e]
    clear hl e
    go_enter Try.func45, Try.ntmps45
    go_wp2
    go_ret
    exact ⟨rfl, rfl⟩

theorem below_iter (w : World) (s : ByteArray) (p : Nat) : Below w.heap.size w (w.iter s p) := (Below.refl _ w).alloc (Nat.le_refl _) _

set_option maxHeartbeats 1000000 in
theorem runeFault_any (s : ByteArray) (w : World) :
    Calls Try.prog 43 #[.string s] w fun e w' => e = .returned (.int .i64 (plc (rf s.data.toList))) ∧ Below w.heap.size w w' := by
  go_enter Try.func43, Try.ntmps43
  go_wp2
  go_loopw [2] (fun _ wr => ∃ pos : Nat, wr = w.iter s pos ∧ pos ≤ s.size ∧ Hid ((rf (s.data.toList.drop pos)).map (· + pos) = rf s.data.toList)) (fun _ wr => s.size - wr.iterPos w.heap.size)
  case atStart => exact ⟨0, rfl, Nat.zero_le _, by show _ = _; simp⟩
  case round =>
    obtain ⟨pos, rfl, hle, HR⟩ := hrel
    by_cases hp : pos < s.size
    · have hnx : ∀ ty, (Instr.next (.pointer (some ⟨w.heap.size, 0, none⟩)) true ty).run Try.prog (w.iter s pos) = _ := fun ty => run_next_any w s pos ty hp
      have hne : s.data.toList.drop pos ≠ [] := fun e => by
        have := congrArg List.length e
        rw [List.length_drop, ← size_list] at this
        simp at this; omega
      have hwd := dec_width _ hne
      rw [← decode_dec, List.length_drop, ← size_list] at hwd
      have hrc := rf_cons hne
      rw [← decode_dec] at hrc
      cases hst : stand (Utf8.decode s pos).1 with
      | true =>
        rw [hst] at hrc
        have HN : Hid ((rf (s.data.toList.drop (pos + (Utf8.decode s pos).2))).map (· + (pos + (Utf8.decode s pos).2)) = rf s.data.toList) := by
          show _ = _
          rw [← HR.out, hrc, if_pos rfl, List.drop_drop, Option.map_map]
          congr 1
          funext x
          simp only [Function.comp]
          omega
        have hpos0 := World.iterPos_iter w s pos
        have hpos1 := World.iterPos_iter w s (pos + (Utf8.decode s pos).2)
        clear hrc hne
        go_wp2_with fail
        refine (mayStand_any _ _).mono ?_
        rintro e w1 ⟨rfl, rfl⟩
        rw [hst]
        go_wp2
        go_roundw
        case rel => exact ⟨_, rfl, by omega, HN⟩
        case measure => rw [hpos0, hpos1]; omega
      | false =>
        rw [hst] at hrc
        have HE : Hid (rf s.data.toList = some pos) := by
          show _ = _
          rw [← HR.out, hrc]
          simp
        clear hrc hne
        go_wp2_with fail
        refine (mayStand_any _ _).mono ?_
        rintro e w1 ⟨rfl, rfl⟩
        rw [hst]
        go_wp2
        go_ret
        exact ⟨by rw [HE.out]; rfl, below_iter w s _⟩
    · have hnx : ∀ ty, (Instr.next (.pointer (some ⟨w.heap.size, 0, none⟩)) true ty).run Try.prog (w.iter s pos) = _ := fun ty => run_next_end w s pos ty hp
      have e : rf s.data.toList = none := by
        rw [← HR.out, List.drop_eq_nil_of_le (by rw [← size_list]; omega), rf_nil]; rfl
      have HE : Hid (rf s.data.toList = none) := e
      clear e
      go_wp2
      go_ret
      exact ⟨by rw [HE.out]; rfl, below_iter w s pos⟩

end Go.Proofs.Ytgdbcdddcejehaa
