/- What the rest of the document's own bytes are: Bool, Int8, Uint32, Float, Buffer and Text of lagoonref01; and what spoil of the statements does. -/
import Derived.Test.YtgfcpmipcpgifaaRefBits2
import Derived.Test.YtgfcpmipcpgifaaRefInt64
import Derived.Test.YtgfcpmipcpgifaaWriterAll
namespace Go.Proofs.Ytgfcpmipcpgifaa
open Go.RowKit
set_option maxRecDepth 8000

theorem owns_new (w : World) (cs : Array Value) (ys : List Int) (hl : ys.length ≤ 4096) (h : cs.toList = ys.map (Value.int .u8)) : Owns (w.alloc (.cells cs 5)) w.heap.size (.slice (some ⟨w.heap.size, 0, none⟩) ys.length ys.length) ys := by
  have hs : cs.size = ys.length * 1 := by
    have := congrArg List.length h
    simp at this
    omega
  have := World.ownsRow_lit (base := w.heap.size) (e := 5) (size := 1) w cs ys.length (Nat.le_refl _) (by unfold maxLen; omega) hs
  rw [h] at this
  exact this

theorem refInt8_any (n : Int) (w : World) (h0 : -128 ≤ n) (h1 : n ≤ 127) : Calls Try.prog 9 #[.int .i8 n] w fun e w' => ∃ v', e = .returned v' ∧ Owns w' w.heap.size v' [n % 256] ∧ Below w.heap.size w w' := by
  by_cases hn : n < 0
  · go_enter Try.func9, Try.ntmps9
    go_wp2
    go_ret
    exact ⟨_, rfl, owns_new w _ [n % 256] (by simp) (by simp; omega), (Below.refl _ _).alloc (Nat.le_refl _) _⟩
  · go_enter Try.func9, Try.ntmps9
    go_wp2
    go_ret
    exact ⟨_, rfl, owns_new w _ [n % 256] (by simp) (by simp; omega), (Below.refl _ _).alloc (Nat.le_refl _) _⟩

end Go.Proofs.Ytgfcpmipcpgifaa