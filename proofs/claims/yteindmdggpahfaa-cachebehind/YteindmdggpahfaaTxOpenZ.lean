/- A zxid that came in, opened; no Go function is walked here. -/
import Derived.Test.YteindmdggpahfaaTxOpen
namespace Go.Proofs.Yteindmdggpahfaa
open Go.ChangeShapes Go.WideShapes Go.ChangeAt Go.RowKit
set_option maxRecDepth 8000

theorem open_zxK {H : Type} {enc : TypeId × Value → H} {W : World} {base : Nat} {spare : Nat → Bool} {held : Bool} {fuel : Nat} {cs : List Value} {x : DataW H × List MemPlace} (h : DataW.trod enc Try.prog W base spare held fuel 24 cs = some x) :
    ∃ e n : Int, cs = [.int .u32 e, .int .u32 n] ∧ (0 ≤ e ∧ e ≤ 4294967295) ∧ 0 ≤ n ∧ n ≤ 4294967295 := by
  obtain ⟨xs, n, _, hx, hl, hxl, _⟩ := DataW.trod_struct Try.underlying24 h
  have hc : Try.prog.cellsOf 24 = 2 := by kernel_rfl
  rw [hc] at hl
  match cs, hl, h with
  | [c0, c1], _, h =>
    obtain ⟨e, n, rfl, rfl, b1, b2, b3, b4⟩ := open_u32x2 h
    exact ⟨e, n, rfl, ⟨b1, b2⟩, b3, b4⟩
end Go.Proofs.Yteindmdggpahfaa
