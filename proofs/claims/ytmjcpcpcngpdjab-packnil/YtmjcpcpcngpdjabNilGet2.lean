/- What get of the statements answers of a nil Reader, all kinds in one word. -/
import Derived.Test.YtmjcpcpcngpdjabNilGet
namespace Go.Proofs.Ytmjcpcpcngpdjab
open Go.RowKit

theorem got0 {R : Ending → World → Prop} {a : Act} {w1 : World} {b : Nat} {d0 d1 d2 d3 d4 d5 d6 : Value} (hbox : w1.heap[b]? = some (.cells #[d0, d1, d2, d3, d4, d5, d6] 49 (0, 0)))
    (h4 : a.tmps.getD 4 undef = .pointer (some ⟨b, 0, none⟩)) (hd : a.defers = []) (hR : R (.returned (.agg #[d0, d1, d2, d3, d4, d5, d6])) w1) :
    bodyPost Try.prog Try.f17 R .ret a w1 := by
  refine bodyPost_ret (v := .agg #[d0, d1, d2, d3, d4, d5, d6]) ?_ hd hR
  have hl := run_loadVar_row (P := Try.prog) _ b _ 49 _ _ _ hbox Try.underlying49 rfl told_size
  rw [results_cell1 Try.results17, h4]
  simp only [asAddr, Sem.run_pure, Result.andThen_ok, hl]

section
variable (on n : Int) (x : Nat) (s : ByteArray) (ao : Option Addr) (l cap : Nat) (w : World)

set_option maxHeartbeats 400000 in
theorem nget_other (kind : Int) (hk : kind < 1 ∨ 11 < kind) : GetNil kind on n x s ao l cap w 0 := by
  unfold GetNil
  have hsf := store_float
  have k1 : (kind == 1) = false := by simp; omega
  have k2 : (kind == 2) = false := by simp; omega
  have k3 : (kind == 3) = false := by simp; omega
  have k4 : (kind == 4) = false := by simp; omega
  have k5 : (kind == 5) = false := by simp; omega
  have k6 : (kind == 6) = false := by simp; omega
  have k7 : (kind == 7) = false := by simp; omega
  have k8 : (kind == 8) = false := by simp; omega
  have k9 : (kind == 9) = false := by simp; omega
  have k10 : (kind == 10) = false := by simp; omega
  have k11 : (kind == 11) = false := by simp; omega
  clear hk
  go_enter Try.func17, Try.ntmps17
  go_wp2
  exact got0 (told_two _ _) rfl rfl ⟨rfl, below_two _ _ _⟩

theorem nget_all (kind : Int) : GetNil kind on n x s ao l cap w (if kind = 10 then 1 else 0) := by
  by_cases hk : kind < 1 ∨ 11 < kind
  · rw [if_neg (by omega)]
    exact nget_other on n x s ao l cap w kind hk
  have hk9 : kind = 1 ∨ kind = 2 ∨ kind = 3 ∨ kind = 4 ∨ kind = 5 ∨ kind = 6 ∨ kind = 7 ∨ kind = 8 ∨ kind = 9 ∨ kind = 10 ∨ kind = 11 := by omega
  rcases hk9 with rfl | rfl | rfl | rfl | rfl | rfl | rfl | rfl | rfl | rfl | rfl
  · exact nget_bool on n x s ao l cap w
  · exact nget_int8 on n x s ao l cap w
  · exact nget_int32 on n x s ao l cap w
  · exact nget_uint32 on n x s ao l cap w
  · exact nget_int64 on n x s ao l cap w
  · exact nget_float on n x s ao l cap w
  · exact nget_text on n x s ao l cap w
  · exact nget_buffer on n x s ao l cap w
  · exact nget_raw on n x s ao l cap w
  · exact nget_ask on n x s ao l cap w
  · exact nget_fail on n x s ao l cap w

end
end Go.Proofs.Ytmjcpcpcngpdjab
