/- A ring of numbers works; texts that came in; the walk of CacheLast. -/
import Derived.Test.YteindmdggpahfaaCaS
import Derived.Deep.Strs
namespace Go.Proofs.Yteindmdggpahfaa
open Go.RowKit
set_option maxRecDepth 8000

set_option maxHeartbeats 400000 in
theorem caWorks_any (w : World) : Calls Try.prog 4 #[] w fun e w' => e = .returned (.bool true) ∧ Below w.heap.size w w' := by
  have HN : Hid (Calls Try.prog 11 #[.int .i64 2] w fun e w' => e = .returned (.tuple #[.pointer (some ⟨w.heap.size, 0, none⟩), .int .i64 0]) ∧ Hid (IsRg 75 w' w.heap.size 2 [] ∧ Below w.heap.size w w')) := newI_yes 2 w (by omega)
  generalize hp : w.heap.size = p at HN
  have HP : Hid (p = w.heap.size) := hp.symm
  go_enter Try.func4, Try.ntmps4
  go_wp2_with fail
  go_at_call 11
  refine (HN.out).mono ?_
  rintro e w1 ⟨rfl, H1⟩
  clear HN
  go_wp2_with fail
  go_at_call 12
  refine (putI_any H1.out.1 5).mono ?_
  rintro e w2 ⟨rfl, h2, k2⟩
  have H2 : Hid (IsRg 75 w2 p 2 [.int .i64 5] ∧ Below p w w2) := ⟨h2, H1.out.2.trans (k2.below (by have := H1.out.1.lt; omega) (fun k e => by omega))⟩
  clear h2 k2 H1
  go_wp2_with fail
  go_at_call 12
  refine (putI_any H2.out.1 6).mono ?_
  rintro e w3 ⟨rfl, h3, k3⟩
  have H3 : Hid (IsRg 75 w3 p 2 [.int .i64 5, .int .i64 6] ∧ Below p w w3) := ⟨h3, H2.out.2.trans (k3.below (by have := H2.out.1.lt; omega) (fun k e => by omega))⟩
  clear h3 k3 H2
  go_wp2_with fail
  go_at_call 12
  refine (putI_any H3.out.1 7).mono ?_
  rintro e w4 ⟨rfl, h4, k4⟩
  have H4 : Hid (IsRg 75 w4 p 2 [.int .i64 6, .int .i64 7] ∧ Below p w w4) := ⟨h4, H3.out.2.trans (k4.below (by have := H3.out.1.lt; omega) (fun k e => by omega))⟩
  clear h4 k4 H3
  go_wp2_with fail
  go_at_call 13
  refine (atI_yes H4.out.1 0 6 rfl).mono ?_
  rintro e w5 ⟨rfl, n5, hw5⟩
  have H5 : Hid (IsRg 75 w5 p 2 [.int .i64 6, .int .i64 7] ∧ Below p w w5) := by
    subst hw5
    exact ⟨IsRg.of_block H4.out.1 rfl, below_drewN H4.out.2 _⟩
  clear hw5 H4
  go_wp2_with fail
  go_at_call 14
  refine (lenI_any H5.out.1).mono ?_
  rintro e w6 ⟨rfl, rfl⟩
  go_wp2
  go_ret
  exact ⟨rfl, H5.out.2⟩

/-- The slice value leads to these texts. -/
def SeesT (w : World) (v : Value) (ss : List ByteArray) : Prop :=
  ∃ (ao : Option Addr) (cap : Nat), v = .slice ao ss.length cap ∧ ss.length ≤ cap ∧ cap ≤ maxLen ∧ (ss = [] ∨ ∃ b off, ao = some ⟨b, off, none⟩ ∧ ∀ (i : Nat) (h : i < ss.length), w.cell? ⟨b, off + i, none⟩ = some (.string ss[i]))

theorem take_snoc {α : Type} (l : List α) (k : Nat) (hk : k < l.length) : l.take (k + 1) = l.take k ++ [l[k]] := by
  rw [List.take_add_one, List.getElem?_eq_getElem hk]; rfl

/-- The texts put so far, as the ring has them. -/
theorem rows_next (n : Nat) (l : List ByteArray) (k : Nat) (hk : k < l.length) : lastN n (lastN n ((l.take k).map Value.string) ++ [.string l[k]]) = lastN n ((l.take (k + 1)).map Value.string) := by
  rw [lastN_snoc, take_snoc l k hk, List.map_append]
  rfl

/-- A text of what was put: from the last n of the first i + 1. -/
theorem row_at_last (n : Nat) (l : List ByteArray) (i k : Nat) (hi : i < l.length) (hk : k < min (i + 1) n) :
    ∃ (h : i + 1 - min (i + 1) n + k < l.length), (lastN n ((l.take (i + 1)).map Value.string))[k]? = some (.string l[i + 1 - min (i + 1) n + k]) := by
  have h : i + 1 - min (i + 1) n + k < l.length := by omega
  refine ⟨h, ?_⟩
  rw [lastN_getElem?]
  simp only [List.length_map, List.length_take, List.getElem?_map]
  rw [show min (i + 1) l.length - n + k = i + 1 - min (i + 1) n + k by omega, List.getElem?_take, if_pos (by omega), List.getElem?_eq_getElem h]
  rfl

end Go.Proofs.Yteindmdggpahfaa
