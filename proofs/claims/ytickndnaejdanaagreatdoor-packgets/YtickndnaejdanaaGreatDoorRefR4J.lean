/- The document's own Reader (lagoonref01): Raw. -/
import Derived.Test.YtickndnaejdanaaGreatDoorReaderMoreJ
import Derived.Test.YtickndnaejdanaaGreatDoorPut3J
import Derived.Deep.CutRange
namespace Go.Proofs.YtickndnaejdanaaGreatDoor
open Go.RowKit
set_option maxRecDepth 8000

section
variable (g : Nat) (v : Value) (bs : List Int) (p : Nat) (f : Int) (w : World)

/-- The piece of a slice from p on, m long. -/
def piece (ao : Option Addr) (p m cap : Nat) : Value := .slice (if cap = p then ao else ao.map (·.add p)) m (cap - p)

theorem run_piece (ao : Option Addr) (l cap p m : Nat) (h : p + m ≤ cap) (hc : cap ≤ 9223372036854775807) (w : World) : (Instr.slice 22 (.slice ao l cap) (some (.int .i64 p)) (some (.int .i64 (IntKind.i64.wrap ((p : Int) + (m : Int))))) none).run Tryz.prog w = .ok (piece ao p m cap) w := by
  have e : IntKind.i64.wrap ((p : Int) + (m : Int)) = (p : Int) + (m : Int) := by
    simp [IntKind.wrap, IntKind.bits, IntKind.signed]
    omega
  have ht : Tryz.prog.underlying 22 = some (.slice (Tryz.prog.elem 22)) := by kernel_rfl
  have hs : ∀ w, (sizeOf (Tryz.prog.elem 22)).run Tryz.prog w = .ok 1 w := fun w => by kernel_rfl
  rw [e, run_slice_lh w 22 ao l cap ht .i64 .i64 p ((p : Int) + (m : Int)) (by omega) (by omega) (by omega), hs]
  have e1 : ((p : Int) + (m : Int)).toNat = p + m := by omega
  simp only [Result.andThen, sliced, piece, Int.toNat_natCast, e1, Nat.mul_one]
  congr 2
  omega

theorem sees_piece {w : World} {ao : Option Addr} {bs : List Int} {cap : Nat} (h : Sees w (.slice ao bs.length cap) bs) {p m : Nat} (hp : p + m ≤ bs.length) : Sees w (piece ao p m cap) ((bs.drop p).take m) := by
  have hd := sees_drop h (n := p) (by omega)
  have hl : ((bs.drop p).take m).length = m := by rw [List.length_take, List.length_drop]; omega
  unfold cutFrom at hd
  obtain ⟨ao', cap', e, h1, h2, h3, h4⟩ := hd
  simp only at e
  have e2 : piece ao p m cap = .slice ao' m cap' := by
    unfold piece
    by_cases hc : cap = p
    · rw [if_pos hc] at e
      rw [if_pos hc]
      simp at e
      rw [← e.1, ← e.2, hc, Nat.sub_self]
    · rw [if_neg hc] at e
      rw [if_neg hc]
      simp at e
      rw [← e.1, ← e.2]
  rw [e2]
  refine ⟨ao', cap', by rw [hl], by rw [hl]; rw [List.length_drop] at h1; omega, h2, h3, ?_⟩
  rcases h4 with h4 | ⟨b, off, e', h4⟩
  · exact .inl (by rw [h4]; simp)
  · refine .inr ⟨b, off, e', fun i hi => ?_⟩
    rw [hl] at hi
    rw [h4 i (by rw [List.length_drop]; omega)]
    simp [List.getD_eq_getElem?_getD, hi]

end
end Go.Proofs.YtickndnaejdanaaGreatDoor
