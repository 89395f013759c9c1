/- The document's own Reader (lagoonref01): Int64. -/
import Derived.Test.YtickndnaejdanaaGreatDoorRefRJ
import Derived.Deep.RegionHeld
import Derived.Test.YtickndnaejdanaaGreatDoorReaderAllJ
import Derived.Laws.BytesArg
namespace Go.Proofs.YtickndnaejdanaaGreatDoor
open Go.RowKit
set_option maxRecDepth 8000

section
variable (g : Nat) (v : Value) (bs : List Int) (p : Nat) (f : Int) (w : World)

end
end Go.Proofs.YtickndnaejdanaaGreatDoor

/- What the Reader's Float, Buffer and Text do. -/
namespace Go.Proofs.YtickndnaejdanaaGreatDoor
open Go.RowKit
set_option maxRecDepth 8000

section
variable (g : Nat) (v : Value) (xs : List Int) (f : Int) (w : World)

theorem run_text (w : World) (u : Value) (ys : List Int) (h : Sees w u ys) : (convert 22 9 u).run Tryz.prog w = .ok (.string (strOfNums ys)) w := by
  obtain ⟨ao, cap, rfl, _, _, _, h3⟩ := h
  rcases h3 with rfl | ⟨b, off, rfl, h3⟩
  · cases ao with
    | none => exact run_convert_bytes_nil w 22 5 Tryz.underlying22 Tryz.underlying5 _ _ _ Tryz.underlying9
    | some a =>
      rw [run_convert_bytes_string w 22 9 5 _ _ _ Tryz.underlying22 Tryz.underlying5 Tryz.underlying9]
      have hl : (loadCells a 0).run Tryz.prog w = .ok #[] w := by simp [loadCells, loadCellsFrom]
      simp [Conv.bytesToString, strOfNums, hl]
      rfl
  · exact run_convert_bytes_arg w 22 5 Tryz.underlying22 Tryz.underlying5 b off ys.length cap ys rfl h3 _ Tryz.underlying9

set_option maxHeartbeats 400000 in
theorem rText_any (most : Int) (h : IsR w g v xs f) (hb : Byts xs) :
    Calls Tryz.prog 30 #[.pointer (some ⟨g, 0, none⟩), .int .i64 most] w fun e w' => e = .returned (.string (strOfNums (rdBuf most xs f).1)) ∧ ReadsTo w g v (rdBuf most xs f).2 w' := by
  have H : Hid (IsR w g v xs f ∧ Byts xs) := ⟨h, hb⟩
  clear h hb
  go_enter Tryz.func30, Tryz.ntmps30
  go_wp2_with fail
  refine (rSized_any g v xs f _ most H.out.1 H.out.2).mono ?_
  rintro e w1 ⟨u, rfl, hc, ht⟩
  have hcv := run_text w1 u _ hc.1
  have HC : Hid (ReadsTo w g v (rdBuf most xs f).2 w1) := ht
  clear hc ht
  go_wp2
  go_ret
  exact ⟨rfl, HC.out⟩
end
end Go.Proofs.YtickndnaejdanaaGreatDoor
