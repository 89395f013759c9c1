/- What frame.isSize and frame.head answer: whether a body may have that many bytes; the four bytes of a body's length and the four of its sum. -/
import Derived.Test.YtjdigknhiopdeaaGreatWorksJ
import Derived.Test.YtjdigknhiopdeaaGreatDkTJ
import Derived.Laws.Cover3
import Derived.Laws.CopyOwn
namespace Go.Proofs.YtjdigknhiopdeaaGreat
open Go.RowKit
set_option maxRecDepth 8000

/-- May a body have n bytes? -/
def isSz (n : Int) : Bool := decide (1 ≤ n) && decide (n ≤ 1048576)

theorem isSize_any (n : Int) (w : World) : Calls Tryz.prog 47 #[.int .i64 n] w fun e w' => e = .returned (.bool (isSz n)) ∧ w' = w := by
  unfold isSz
  by_cases h1 : 1 ≤ n
  · by_cases h2 : n ≤ 1048576
    · have d1 : decide (1 ≤ n) = true := by simp [h1]
      have d2 : decide (n ≤ 1048576) = true := by simp [h2]
      go_enter Tryz.func47, Tryz.ntmps47
      go_wp2
      go_ret
      exact ⟨by simp [h1, h2], rfl⟩
    · have d1 : decide (1 ≤ n) = true := by simp [h1]
      have d2 : decide (n ≤ 1048576) = false := by simp; omega
      go_enter Tryz.func47, Tryz.ntmps47
      go_wp2
      go_ret
      exact ⟨by simp, rfl⟩
  · have d1 : decide (1 ≤ n) = false := by simp; omega
    go_enter Tryz.func47, Tryz.ntmps47
    go_wp2
    go_ret
    exact ⟨by simp, rfl⟩

/-- What stands ahead of a body in its frame. -/
def headL (xs : List Int) : List Int := be4 xs.length ++ be4 (adler xs)
/-- The same as an array. -/
def headV (xs : List Int) : Value := .agg ((headL xs).map (Value.int .u8)).toArray

theorem isW_new (w : World) : IsW (w.alloc (.cells #[.slice none 0 0] 81)) w.heap.size (.slice none 0 0) [] := ⟨heap_alloc_new _ _, World.ownsRow_nil _ _ _ _⟩

/-- Eight cells of a list of eight bytes. -/
theorem eight (xs : List Int) : ∃ a b c d e f g h : Int, headL xs = [a, b, c, d, e, f, g, h] := ⟨_, _, _, _, _, _, _, _, rfl⟩

set_option maxHeartbeats 1000000 in
theorem head_any (v : Value) (xs : List Int) (w : World) (h : Sees w v xs) (hb : Byts xs) (hl : xs.length < 4294967296) :
    Calls Tryz.prog 48 #[v] w fun e w' => e = .returned (headV xs) ∧ Below w.heap.size w w' := by
  have H : Hid (Sees w v xs ∧ Byts xs) := ⟨h, hb⟩
  have hab := adler_bd xs
  have ha1 := hab.1
  have ha2 := hab.2
  obtain ⟨ao, cap, rfl, g1, g2, g0, g3⟩ := h
  clear g3 hb g0 hab
  unfold maxLen at g2
  go_enter Tryz.func48, Tryz.ntmps48
  go_wp2_with fail
  refine (wUint32_any (w.heap.size + 1) (.slice none 0 0) [] xs.length _ (by have := isW_new (w.alloc (.cells #[.int .u8 0, .int .u8 0, .int .u8 0, .int .u8 0, .int .u8 0, .int .u8 0, .int .u8 0, .int .u8 0] 78)); rwa [World.size_alloc] at this) (by omega) (by omega) (by simp)).mono ?_
  rintro e w1 ⟨rfl, v1, k1, k2, k3⟩
  have B1 : Below w.heap.size w w1 := (((Below.refl w.heap.size w).alloc (Nat.le_refl _) _).alloc (by simp) _).trans (below_writer k3 (by simp; omega) (by omega) (fun k hk => by simp [Value.ownBlock] at hk))
  have n1 : w1.heap[w.heap.size]? = some (.cells #[.int .u8 0, .int .u8 0, .int .u8 0, .int .u8 0, .int .u8 0, .int .u8 0, .int .u8 0, .int .u8 0] 78 (0, 0)) := by
    refine k3.heap (k := w.heap.size) ?_ (fun hs => ?_)
    · rw [Below.heap_alloc _ _ _ (by simp)]; exact heap_alloc_new _ _
    · rcases hs with hs | hs
      · omega
      · simp [Value.ownBlock] at hs
  have r1 : ∀ k, v1.ownBlock = some k → w.heap.size + 1 < k := by
    intro k hk
    rcases k2 with e | ⟨j, e, hj⟩
    · rw [e] at hk; simp [Value.ownBlock] at hk
    · rw [e] at hk; simp at hk hj; omega
  have H1 : Hid (IsW w1 (w.heap.size + 1) v1 (be4 xs.length) ∧ Below w.heap.size w w1 ∧ w1.heap[w.heap.size]? = some (.cells #[.int .u8 0, .int .u8 0, .int .u8 0, .int .u8 0, .int .u8 0, .int .u8 0, .int .u8 0, .int .u8 0] 78 (0, 0)) ∧ (∀ k, v1.ownBlock = some k → w.heap.size + 1 < k)) := ⟨k1, B1, n1, r1⟩
  clear k1 k2 k3 B1 n1 r1
  go_wp2_with fail
  refine (packSum_any _ xs _ (H.out.1.below H1.out.2.1 (Nat.le_refl _)) H.out.2).mono ?_
  rintro e w2 ⟨rfl, rfl⟩
  go_wp2_with fail
  refine (wUint32_any (w.heap.size + 1) v1 (be4 xs.length) (adler xs) _ H1.out.1 ha1 ha2 (by simp [be4])).mono ?_
  rintro e w3 ⟨rfl, v3, k1, k2, k3⟩
  have B3 : Below w.heap.size w w3 := H1.out.2.1.trans (below_writer k3 H1.out.2.1.size (by omega) (fun k hk => by have := H1.out.2.2.2 k hk; omega))
  have n3 : w3.heap[w.heap.size]? = some (.cells #[.int .u8 0, .int .u8 0, .int .u8 0, .int .u8 0, .int .u8 0, .int .u8 0, .int .u8 0, .int .u8 0] 78 (0, 0)) := by
    refine k3.heap (k := w.heap.size) H1.out.2.2.1 (fun hs => ?_)
    rcases hs with hs | hs
    · omega
    · have := H1.out.2.2.2 _ hs; omega
  have H3 : Hid (IsW w3 (w.heap.size + 1) v3 (headL xs) ∧ Below w.heap.size w w3 ∧ w3.heap[w.heap.size]? = some (.cells #[.int .u8 0, .int .u8 0, .int .u8 0, .int .u8 0, .int .u8 0, .int .u8 0, .int .u8 0, .int .u8 0] 78 (0, 0))) := ⟨k1, B3, n3⟩
  clear k1 k2 k3 B3 n3 H1
  go_wp2_with fail
  refine (wBytes_any (w.heap.size + 1) v3 (headL xs) _ H3.out.1 (by simp [headL, be4])).mono ?_
  rintro e w4 ⟨v4, rfl, ho, hb4⟩
  obtain ⟨g, c, rfl, hg⟩ := owns_some ho (by simp [headL, be4])
  have n4 : w4.heap[w.heap.size]? = some (.cells #[.int .u8 0, .int .u8 0, .int .u8 0, .int .u8 0, .int .u8 0, .int .u8 0, .int .u8 0, .int .u8 0] 78 (0, 0)) := by
    rw [hb4.block w.heap.size (lt_of_block H3.out.2.2)]; exact H3.out.2.2
  have hl8 : (headL xs).length = 8 := by simp [headL, be4]
  have HB : Hid (Below w.heap.size w w4 ∧ w4.heap[w.heap.size]? = some (.cells #[.int .u8 0, .int .u8 0, .int .u8 0, .int .u8 0, .int .u8 0, .int .u8 0, .int .u8 0, .int .u8 0] 78 (0, 0))) := ⟨H3.out.2.1.trans ⟨hb4.os, hb4.tape, hb4.output, hb4.size, fun k hk => hb4.block k (by have := H3.out.2.1.size; omega)⟩, n4⟩
  have hg4 : g ≠ w.heap.size := by have := lt_of_block H3.out.2.2; omega
  have fr : ∀ j, w4.frozen? ⟨w.heap.size, j, none⟩ = false := fun j => frozen_of_row w4 w.heap.size j _ _ n4
  have HV : Hid (headV xs = .agg ((headL xs).map (Value.int .u8)).toArray) := (rfl : headV xs = _)
  have oc := owns_cell ho
  obtain ⟨b0, b1, b2, b3, b4, b5, b6, b7, hh⟩ := eight xs
  rw [hh] at oc hl8 HV
  rw [hh]
  have q0 : w4.cell? ⟨g, 0, none⟩ = some (.int .u8 b0) := oc 0 (by simp)
  have q1 : w4.cell? ⟨g, 1, none⟩ = some (.int .u8 b1) := oc 1 (by simp)
  have q2 : w4.cell? ⟨g, 2, none⟩ = some (.int .u8 b2) := oc 2 (by simp)
  have q3 : w4.cell? ⟨g, 3, none⟩ = some (.int .u8 b3) := oc 3 (by simp)
  have q4 : w4.cell? ⟨g, 4, none⟩ = some (.int .u8 b4) := oc 4 (by simp)
  have q5 : w4.cell? ⟨g, 5, none⟩ = some (.int .u8 b5) := oc 5 (by simp)
  have q6 : w4.cell? ⟨g, 6, none⟩ = some (.int .u8 b6) := oc 6 (by simp)
  have q7 : w4.cell? ⟨g, 7, none⟩ = some (.int .u8 b7) := oc 7 (by simp)
  have z : ∀ j, j < 8 → w4.cell? ⟨w.heap.size, j, none⟩ = (#[.int .u8 0, .int .u8 0, .int .u8 0, .int .u8 0, .int .u8 0, .int .u8 0, .int .u8 0, .int .u8 0] : Array Value)[j]? := fun j _ => cell_of_row w4 w.heap.size j _ _ _ n4
  have z0 : w4.cell? ⟨w.heap.size, 0, none⟩ = some (.int .u8 0) := z 0 (by omega)
  have z1 : w4.cell? ⟨w.heap.size, 1, none⟩ = some (.int .u8 0) := z 1 (by omega)
  have z2 : w4.cell? ⟨w.heap.size, 2, none⟩ = some (.int .u8 0) := z 2 (by omega)
  have z3 : w4.cell? ⟨w.heap.size, 3, none⟩ = some (.int .u8 0) := z 3 (by omega)
  have z4 : w4.cell? ⟨w.heap.size, 4, none⟩ = some (.int .u8 0) := z 4 (by omega)
  have z5 : w4.cell? ⟨w.heap.size, 5, none⟩ = some (.int .u8 0) := z 5 (by omega)
  have z6 : w4.cell? ⟨w.heap.size, 6, none⟩ = some (.int .u8 0) := z 6 (by omega)
  have z7 : w4.cell? ⟨w.heap.size, 7, none⟩ = some (.int .u8 0) := z 7 (by omega)
  have f0 := fr 0
  have f1 := fr 1
  have f2 := fr 2
  have f3 := fr 3
  have f4 := fr 4
  have f5 := fr 5
  have f6 := fr 6
  have f7 := fr 7
  have hat : ∀ w, (Instr.arrayAt 78 (.slice (some ⟨g, 0, none⟩) 8 c)).run Tryz.prog w = .ok (.pointer (some ⟨g, 0, none⟩)) w := fun w => run_arrayAt w 78 _ 8 _ 8 c Tryz.underlying78 (Nat.le_refl _)
  clear ho hb4 H3 oc z fr n4 hh hl8
  go_wp2
  refine bodyPost_ret (v := .agg #[.int .u8 b0, .int .u8 b1, .int .u8 b2, .int .u8 b3, .int .u8 b4, .int .u8 b5, .int .u8 b6, .int .u8 b7]) ?_ rfl ⟨by rw [HV.out]; rfl, ((((((((HB.out.1.setCell (p := ⟨w.heap.size, 0, none⟩) (Nat.le_refl _) _).setCell (p := ⟨w.heap.size, 1, none⟩) (Nat.le_refl _) _).setCell (p := ⟨w.heap.size, 2, none⟩) (Nat.le_refl _) _).setCell (p := ⟨w.heap.size, 3, none⟩) (Nat.le_refl _) _).setCell (p := ⟨w.heap.size, 4, none⟩) (Nat.le_refl _) _).setCell (p := ⟨w.heap.size, 5, none⟩) (Nat.le_refl _) _).setCell (p := ⟨w.heap.size, 6, none⟩) (Nat.le_refl _) _).setCell (p := ⟨w.heap.size, 7, none⟩) (Nat.le_refl _) _)⟩
  have hres : Tryz.f48.results = #[.cell 2 78] := by kernel_rfl
  simp only [results, hres]
  go_simp

end Go.Proofs.YtjdigknhiopdeaaGreat
