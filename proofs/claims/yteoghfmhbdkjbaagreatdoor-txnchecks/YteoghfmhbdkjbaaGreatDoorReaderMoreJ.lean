/- What the Reader's Float, Buffer and Text do. -/
import Derived.Test.YteoghfmhbdkjbaaGreatDoorReaderAllJ
import Derived.Laws.BytesArg
namespace Go.Proofs.YteoghfmhbdkjbaaGreatDoor
open Go.RowKit
set_option maxRecDepth 8000

/-- A float: by the document: its word. -/
def rdFloat (xs : List Int) (f : Int) : Rd :=
  if f ≠ 0 then ⟨0, xs, f⟩ else if xs.length < 8 then ⟨0, xs, 10⟩
  else if 9218868437227405312 < (num (xs.take 8)).toNat % 9223372036854775808 ∧ num (xs.take 8) ≠ 9221120237041090560 then ⟨0, xs, 12⟩ else ⟨num (xs.take 8), xs.drop 8, 0⟩

section
variable (g : Nat) (v : Value) (xs : List Int) (f : Int) (w : World)

set_option maxHeartbeats 400000 in
theorem rBuffer_any (most : Int) (h : IsR w g v xs f) (hb : Byts xs) :
    Calls Tryz.prog 106 #[.pointer (some ⟨g, 0, none⟩), .int .i64 most] w fun e w' => ∃ u, e = .returned u ∧ Cut w' v u (rdBuf most xs f).1 ∧ ReadsTo w g v (rdBuf most xs f).2 w' := by
  have H : Hid (IsR w g v xs f ∧ Byts xs) := ⟨h, hb⟩
  clear h hb
  go_enter Tryz.func106, Tryz.ntmps106
  go_wp2_with fail
  refine (rSized_any g v xs f _ most H.out.1 H.out.2).mono ?_
  rintro e w1 ⟨u, rfl, hc⟩
  have HC : Hid (Cut w1 v u (rdBuf most xs f).1 ∧ ReadsTo w g v (rdBuf most xs f).2 w1) := hc
  clear hc
  go_wp2
  go_ret
  exact ⟨_, rfl, HC.out⟩

theorem run_text (w : World) (u : Value) (ys : List Int) (h : Sees w u ys) : (convert 28 9 u).run Tryz.prog w = .ok (.string (strOfNums ys)) w := by
  obtain ⟨ao, cap, rfl, _, _, _, h3⟩ := h
  rcases h3 with rfl | ⟨b, off, rfl, h3⟩
  · cases ao with
    | none => exact run_convert_bytes_nil w 28 5 Tryz.underlying28 Tryz.underlying5 _ _ _ Tryz.underlying9
    | some a =>
      rw [run_convert_bytes_string w 28 9 5 _ _ _ Tryz.underlying28 Tryz.underlying5 Tryz.underlying9]
      have hl : (loadCells a 0).run Tryz.prog w = .ok #[] w := by simp [loadCells, loadCellsFrom]
      simp [Conv.bytesToString, strOfNums, hl]
      rfl
  · exact run_convert_bytes_arg w 28 5 Tryz.underlying28 Tryz.underlying5 b off ys.length cap ys rfl h3 _ Tryz.underlying9

set_option maxHeartbeats 400000 in
theorem rText_any (most : Int) (h : IsR w g v xs f) (hb : Byts xs) :
    Calls Tryz.prog 81 #[.pointer (some ⟨g, 0, none⟩), .int .i64 most] w fun e w' => e = .returned (.string (strOfNums (rdBuf most xs f).1)) ∧ ReadsTo w g v (rdBuf most xs f).2 w' := by
  have H : Hid (IsR w g v xs f ∧ Byts xs) := ⟨h, hb⟩
  clear h hb
  go_enter Tryz.func81, Tryz.ntmps81
  go_wp2_with fail
  refine (rSized_any g v xs f _ most H.out.1 H.out.2).mono ?_
  rintro e w1 ⟨u, rfl, hc, ht⟩
  have hcv := run_text w1 u _ hc.1
  have HC : Hid (ReadsTo w g v (rdBuf most xs f).2 w1) := ht
  clear hc ht
  go_wp2
  go_ret
  exact ⟨rfl, HC.out⟩
end
end Go.Proofs.YteoghfmhbdkjbaaGreatDoor
