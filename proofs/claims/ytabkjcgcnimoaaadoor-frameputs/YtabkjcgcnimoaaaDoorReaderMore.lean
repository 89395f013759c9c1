/- What the Reader's Float, Buffer and Text do. -/
import Derived.Test.YtabkjcgcnimoaaaDoorReaderAll
import Derived.Laws.BytesArg
namespace Go.Proofs.YtabkjcgcnimoaaaDoor
open Go.RowKit
set_option maxRecDepth 8000

/-- A float: by the document: its word. -/
def rdFloat (xs : List Int) (f : Int) : Rd :=
  if f ≠ 0 then ⟨0, xs, f⟩ else if xs.length < 8 then ⟨0, xs, 10⟩
  else if 9218868437227405312 < (num (xs.take 8)).toNat % 9223372036854775808 ∧ num (xs.take 8) ≠ 9221120237041090560 then ⟨0, xs, 12⟩ else ⟨num (xs.take 8), xs.drop 8, 0⟩

section
variable (g : Nat) (v : Value) (xs : List Int) (f : Int) (w : World)

theorem run_text (w : World) (u : Value) (ys : List Int) (h : Sees w u ys) : (convert 22 9 u).run Tryd.prog w = .ok (.string (strOfNums ys)) w := by
  obtain ⟨ao, cap, rfl, _, _, _, h3⟩ := h
  rcases h3 with rfl | ⟨b, off, rfl, h3⟩
  · cases ao with
    | none => exact run_convert_bytes_nil w 22 5 Tryd.underlying22 Tryd.underlying5 _ _ _ Tryd.underlying9
    | some a =>
      rw [run_convert_bytes_string w 22 9 5 _ _ _ Tryd.underlying22 Tryd.underlying5 Tryd.underlying9]
      have hl : (loadCells a 0).run Tryd.prog w = .ok #[] w := by simp [loadCells, loadCellsFrom]
      simp [Conv.bytesToString, strOfNums, hl]
      rfl
  · exact run_convert_bytes_arg w 22 5 Tryd.underlying22 Tryd.underlying5 b off ys.length cap ys rfl h3 _ Tryd.underlying9

end
end Go.Proofs.YtabkjcgcnimoaaaDoor