/- SessionLives for every input. -/
import Derived.Test.YtmohpcoiobcncaaSeP
namespace Go.Proofs.Ytmohpcoiobcncaa
open Go.RowKit Go.Shelf

theorem lives_walk19 (span id tm : Int) (v : Value) (ks : List Int) (w : World) (hv : SeesI w v ks) (_ : ks.length ≤ 140737488355328) (_ : -9223372036854775808 ≤ span ∧ span ≤ 9223372036854775807) (_ : -9223372036854775808 ≤ id ∧ id ≤ 9223372036854775807) (ht : -2147483648 ≤ tm ∧ tm ≤ 2147483647) :
    Calls Try.prog 4 #[.int .i64 span, .int .i64 id, .int .i32 tm, v] w fun e w' => e = .returned (.bool true) ∧ Below w.heap.size w w' := by
  by_cases h : span < 1 ∨ 1000 < span
  · exact lives_no span id tm v w h
  · exact lives_yes span id tm v ks w hv (by omega) (by omega) ht

end Go.Proofs.Ytmohpcoiobcncaa
