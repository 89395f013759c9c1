/- Parts, Large and LargeTxns of lagoonref00. -/
import Derived.Test.YtnnphmeocoijkaaParts
namespace Go.Proofs.Ytnnphmeocoijkaa
open Go.RowKit
set_option maxRecDepth 8000

set_option maxHeartbeats 400000 in
theorem bigParts_any (r : Rq) (cs : List Value) (w : World) (h : SeesRq w cs r) (hg : r.good) :
    Calls Try.prog 12 #[.agg cs.toArray] w fun e w' => ∃ m : Nat, e = .returned (.int .i64 m) ∧ m ≤ 500000000000000 ∧ 0 < m ∧ (m ≤ 20000 → m = r.parts) ∧ Below w.heap.size w w' := by
  have HX : Hid (∀ W : World, Below w.heap.size w W → Calls Try.prog 22 #[.agg cs.toArray, .int .i64 ((0 : Nat) : Int)] W fun e w' => ∃ m : Nat, e = .returned (.int .i64 m) ∧ m ≤ 500000000000000 ∧ 0 < m ∧ (m ≤ 20000 → m = 0 + r.parts) ∧ Below W.heap.size W w') := fun W hW =>
    parts_any r cs 0 W (h.later hW (Nat.le_refl _)) hg (by omega)
  obtain ⟨q0, q1, d0, d1, d2, a0, a1, a2, q4, q5, q6, q7, q8, e0, e1, e2, o0, o1, o2, rfl⟩ := rq_forms h
  have hB := one_alloc w
  clear h hg
  go_enter Try.func12, Try.ntmps12
  go_wp2_with fail
  refine (HX.out _ (hB _)).mono ?_
  rintro e w1 ⟨m, rfl, h1, h2, h3, b⟩
  have HF : Hid ((m ≤ 20000 → m = r.parts) ∧ Below w.heap.size w w1) := ⟨fun h => by have := h3 h; omega, (hB _).trans (b.mono (by simp))⟩
  clear h3 b hB
  go_wp2
  go_ret
  exact ⟨m, rfl, h1, h2, HF.out.1, HF.out.2⟩

set_option maxHeartbeats 400000 in
theorem large_any (r : Rq) (cs : List Value) (w : World) (h : SeesRq w cs r) (hg : r.good) :
    Calls Try.prog 5 #[.agg cs.toArray] w fun e w' => ∃ b : Bool, e = .returned (.bool b) ∧ (b = false → r.parts ≤ 20000) ∧ Below w.heap.size w w' := by
  have HX : Hid (∀ W : World, Below w.heap.size w W → Calls Try.prog 12 #[.agg cs.toArray] W fun e w' => ∃ m : Nat, e = .returned (.int .i64 m) ∧ m ≤ 500000000000000 ∧ 0 < m ∧ (m ≤ 20000 → m = r.parts) ∧ Below W.heap.size W w') := fun W hW =>
    bigParts_any r cs W (h.later hW (Nat.le_refl _)) hg
  obtain ⟨q0, q1, d0, d1, d2, a0, a1, a2, q4, q5, q6, q7, q8, e0, e1, e2, o0, o1, o2, rfl⟩ := rq_forms h
  have hB := one_alloc w
  clear h hg
  go_enter Try.func5, Try.ntmps5
  go_wp2_with fail
  refine (HX.out _ (hB _)).mono ?_
  rintro e w1 ⟨m, rfl, h1, h2, h3, b⟩
  have HF : Hid ((m ≤ 20000 → m = r.parts) ∧ Below w.heap.size w w1) := ⟨h3, (hB _).trans (b.mono (by simp))⟩
  clear h3 b hB
  go_wp2
  go_ret
  refine ⟨_, rfl, fun h => ?_, HF.out.2⟩
  simp at h
  have := HF.out.1 (by omega)
  omega

/-- A transaction of a list, its cells. -/
theorem txs_at {w : World} {v : Value} {l : List TxD} (h : SeesTxs w v l) (k : Nat) (hk : k < l.length) : ∃ b off cap rc, v = .slice (some ⟨b, off, none⟩) l.length cap ∧ l.length ≤ cap ∧ cap ≤ maxLen ∧ SeesRq w rc l[k].rq ∧ ∀ j, j < 16 → w.cell? ⟨b, off + k * 16 + j, none⟩ = some ((txHead l[k] ++ rc).getD j (.bool false)) := by
  obtain ⟨cs, ⟨ao, cap, rfl, h1, h2, h0, h3⟩, hl, hs⟩ := h
  rcases h3 with h3 | ⟨b, off, rfl, h3⟩
  · have : cs.length = 0 := by rw [h3]; rfl
    omega
  · obtain ⟨rc, e, hr⟩ := hs k (by omega) hk
    refine ⟨b, off, cap, rc, by rw [hl], by omega, h2, hr, fun j hj => ?_⟩
    rw [h3 k (by omega) j hj, e]

theorem txs_shape {w : World} {v : Value} {l : List TxD} (h : SeesTxs w v l) : ∃ a c, v = .slice a l.length c ∧ l.length ≤ c ∧ c ≤ maxLen := by
  obtain ⟨cs, ⟨ao, cap, rfl, h1, h2, _⟩, hl, _⟩ := h
  exact ⟨ao, cap, by rw [hl], by omega, h2⟩

end Go.Proofs.Ytnnphmeocoijkaa