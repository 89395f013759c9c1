/- EqAcl and EqIds of lagoonref00 at two lists of the same data: true; nothing is changed. -/
import Derived.Test.YtiakjeomedijkaaGreatDoorWrTJ
import Derived.Test.YtiakjeomedijkaaGreatDoorFr2J
import Derived.BigQuiet
namespace Go.Proofs.YtiakjeomedijkaaGreatDoor
open Go.RowKit
set_option maxRecDepth 8000

theorem neqId (a b : ByteArray) (w : World) : (binOp .neq 126 (.agg #[.string a, .string b]) (.agg #[.string a, .string b])).run Tryz.prog w = .ok (.bool false) w := by
  have hu : Tryz.prog.underlying 126 = some (.struct (Tryz.prog.fieldsOf 126)) := by kernel_rfl
  have hp : Tryz.prog.stoodInHeld 126 = false := by kernel_rfl
  have u3 := Tryz.underlying9
  have a3 := Tryz.isAgg9
  have z3 := Tryz.sizeOf9
  rw [run_neq_struct, show (10000 : Nat) = 9999 + 1 from rfl, run_equalIn_agg w 9999 _ _ _ hu hp]
  simp only [Program.fieldsOf, Tryz.underlying126]
  go_simp

theorem eqIdIn (d : Nat) (a b : ByteArray) (w : World) : (Op.equalIn (d + 1 + 1) 126 (.agg #[.string a, .string b]) (.agg #[.string a, .string b])).run Tryz.prog w = .ok true w := by
  have hu : Tryz.prog.underlying 126 = some (.struct (Tryz.prog.fieldsOf 126)) := by kernel_rfl
  have hp : Tryz.prog.stoodInHeld 126 = false := by kernel_rfl
  have u3 := Tryz.underlying9
  have a3 := Tryz.isAgg9
  have z3 := Tryz.sizeOf9
  rw [run_equalIn_agg w (d + 1) _ _ _ hu hp]
  simp only [Program.fieldsOf, Tryz.underlying126]
  go_simp

theorem neqEn (p : Int) (a b : ByteArray) (w : World) : (binOp .neq 130 (.agg #[.int .i8 p, .string a, .string b]) (.agg #[.int .i8 p, .string a, .string b])).run Tryz.prog w = .ok (.bool false) w := by
  have hu : Tryz.prog.underlying 130 = some (.struct (Tryz.prog.fieldsOf 130)) := by kernel_rfl
  have hp : Tryz.prog.stoodInHeld 130 = false := by kernel_rfl
  have hin : ∀ w, (Op.equalIn 9999 126 (.agg #[.string a, .string b]) (.agg #[.string a, .string b])).run Tryz.prog w = .ok true w := eqIdIn 9997 a b
  have u4 := Tryz.underlying92
  have a4 := Tryz.isAgg92
  have z4 := Tryz.sizeOf92
  have a5 := Tryz.isAgg126
  have z5 := Tryz.sizeOf126
  rw [run_neq_struct, show (10000 : Nat) = 9999 + 1 from rfl, run_equalIn_agg w 9999 _ _ _ hu hp]
  simp only [Program.fieldsOf, Tryz.underlying130]
  clear hu hp
  go_simp

end Go.Proofs.YtiakjeomedijkaaGreatDoor