/- SessionEnds for every input. -/
import Derived.Test.YtmohpcoiobcncaaSeK
namespace Go.Proofs.Ytmohpcoiobcncaa
open Go.RowKit Go.Shelf

theorem ends_walk (span ahead id tm : Int) (v : Value) (l0 : List OpS) (w : World) (hv : SeesOpS w v l0) (_ : l0.length ≤ 140737488355328) (_ : -9223372036854775808 ≤ span ∧ span ≤ 9223372036854775807) (_ : -9223372036854775808 ≤ ahead ∧ ahead ≤ 9223372036854775807) (_ : -9223372036854775808 ≤ id ∧ id ≤ 9223372036854775807) (ht : -2147483648 ≤ tm ∧ tm ≤ 2147483647) :
    Calls Try.prog 3 #[.int .i64 span, .int .i64 ahead, .int .i64 id, .int .i32 tm, v] w fun e w' => e = .returned (.bool true) ∧ Below w.heap.size w w' := by
  by_cases h : span < 1 ∨ 1000 < span
  · exact ends_no span ahead id tm v w h
  · exact ends_yes span ahead id tm v l0 w hv (by omega) (by omega) ht

end Go.Proofs.Ytmohpcoiobcncaa
