/- EqAcl and EqIds of lagoonref00 at two lists of the same data: true; nothing is changed. -/
import Derived.Test.YtnnphmeocoijkaaZx
import Derived.Test.YtnnphmeocoijkaaRq
import Derived.Test.YtnnphmeocoijkaaLeafSum
import Derived.BigQuiet
namespace Go.Proofs.Ytnnphmeocoijkaa
open Go.RowKit
set_option maxRecDepth 8000

theorem neqId (a b : ByteArray) (w : World) : (binOp .neq 87 (.agg #[.string a, .string b]) (.agg #[.string a, .string b])).run Try.prog w = .ok (.bool false) w := by
  have hu : Try.prog.underlying 87 = some (.struct (Try.prog.fieldsOf 87)) := by kernel_rfl
  have hp : Try.prog.stoodInHeld 87 = false := by kernel_rfl
  have u3 := Try.underlying9
  have a3 := Try.isAgg9
  have z3 := Try.sizeOf9
  rw [run_neq_struct, show (10000 : Nat) = 9999 + 1 from rfl, run_equalIn_agg w 9999 _ _ _ hu hp]
  simp only [Program.fieldsOf, Try.underlying87]
  go_simp

theorem eqIdIn (d : Nat) (a b : ByteArray) (w : World) : (Op.equalIn (d + 1 + 1) 87 (.agg #[.string a, .string b]) (.agg #[.string a, .string b])).run Try.prog w = .ok true w := by
  have hu : Try.prog.underlying 87 = some (.struct (Try.prog.fieldsOf 87)) := by kernel_rfl
  have hp : Try.prog.stoodInHeld 87 = false := by kernel_rfl
  have u3 := Try.underlying9
  have a3 := Try.isAgg9
  have z3 := Try.sizeOf9
  rw [run_equalIn_agg w (d + 1) _ _ _ hu hp]
  simp only [Program.fieldsOf, Try.underlying87]
  go_simp

theorem neqEn (p : Int) (a b : ByteArray) (w : World) : (binOp .neq 89 (.agg #[.int .i8 p, .string a, .string b]) (.agg #[.int .i8 p, .string a, .string b])).run Try.prog w = .ok (.bool false) w := by
  have hu : Try.prog.underlying 89 = some (.struct (Try.prog.fieldsOf 89)) := by kernel_rfl
  have hp : Try.prog.stoodInHeld 89 = false := by kernel_rfl
  have hin : ∀ w, (Op.equalIn 9999 87 (.agg #[.string a, .string b]) (.agg #[.string a, .string b])).run Try.prog w = .ok true w := eqIdIn 9997 a b
  have u4 := Try.underlying25
  have a4 := Try.isAgg25
  have z4 := Try.sizeOf25
  have a5 := Try.isAgg87
  have z5 := Try.sizeOf87
  rw [run_neq_struct, show (10000 : Nat) = 9999 + 1 from rfl, run_equalIn_agg w 9999 _ _ _ hu hp]
  simp only [Program.fieldsOf, Try.underlying89]
  clear hu hp
  go_simp

end Go.Proofs.Ytnnphmeocoijkaa