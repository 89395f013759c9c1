/- The document's own Reader (lagoonref01): fault, Bool, Int64 and Raw. -/
import Derived.Test.YtickndnaejdanaaGreatDoorRefRJ
import Derived.Test.YtickndnaejdanaaGreatDoorOneJ
import Derived.Deep.RegionHeld
import Derived.Test.YtickndnaejdanaaGreatDoorWideJ
namespace Go.Proofs.YtickndnaejdanaaGreatDoor
open Go.RowKit
set_option maxRecDepth 8000

section
variable (g : Nat) (v : Value) (bs : List Int) (p : Nat) (f : Int) (w : World)

set_option maxHeartbeats 400000 in
theorem qFault_any (q : Nat) (e0 : Int) (h : IsQ w g v bs p f) (hq : q ≤ bs.length) : Calls Tryz.prog 32 #[.pointer (some ⟨g, 0, none⟩), .int .i64 q, .int .i64 e0] w fun e w' => e = .returned (.tuple #[]) ∧ IsQ w' g v bs q e0 ∧ Kept w w' (· = g) := by
  have c1 := h.c1
  have f1 := h.fr 1
  have c2 := h.c2
  have f2 := h.fr 2
  have hk : Kept w ((w.setCell ⟨g, 1, none⟩ (.int .i64 q)).setCell ⟨g, 2, none⟩ (.int .i64 e0)) (fun x => x = g) := ((Kept.refl w (fun x => x = g)).setCell ⟨g, 1, none⟩ _ (fun _ => rfl)).setCell ⟨g, 2, none⟩ _ (fun _ => rfl)
  have HR : Hid (IsQ ((w.setCell ⟨g, 1, none⟩ (.int .i64 q)).setCell ⟨g, 2, none⟩ (.int .i64 e0)) g v bs q e0 ∧ Kept w ((w.setCell ⟨g, 1, none⟩ (.int .i64 q)).setCell ⟨g, 2, none⟩ (.int .i64 e0)) (fun x => x = g)) := ⟨(h.set1 hq).set2 e0, hk⟩
  clear h hk
  go_enter Tryz.func32, Tryz.ntmps32
  go_wp2
  go_end0
  exact ⟨rfl, HR.out⟩

end
end Go.Proofs.YtickndnaejdanaaGreatDoor

/- What put of the statements does with raw bytes, and put for all kinds of values in one word. -/
namespace Go.Proofs.YtickndnaejdanaaGreatDoor
open Go.RowKit
set_option maxRecDepth 8000

end Go.Proofs.YtickndnaejdanaaGreatDoor
