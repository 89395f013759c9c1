/- What the calls of a nil Writer do: nothing; nothing that was there before is changed. -/
import Derived.Test.YtmjcpcpcngpdjabPut3
namespace Go.Proofs.Ytmjcpcpcngpdjab
open Go.RowKit

theorem nAdd (u : Value) (w : World) : Calls Try.prog 28 #[.pointer none, u] w fun e w' => e = .returned (.tuple #[]) ∧ w' = w := by
  go_enter Try.func28, Try.ntmps28
  go_wp2
  go_end0
  exact ⟨rfl, rfl⟩

theorem below_new (w : World) (o : Obj) : Below w.heap.size w (w.alloc o) := (Below.refl w.heap.size w).alloc (Nat.le_refl _) o

theorem nBool (b : Bool) (w : World) : Calls Try.prog 33 #[.pointer none, .bool b] w fun e w' => e = .returned (.tuple #[]) ∧ Below w.heap.size w w' := by
  cases b <;>
  · go_enter Try.func33, Try.ntmps33
    go_wp2_with fail
    refine (nAdd _ _).mono ?_
    rintro e w1 ⟨rfl, hw⟩
    have HB : Hid (Below w.heap.size w w1) := by rw [hw]; exact below_new _ _
    clear hw
    go_wp2
    go_end0
    exact ⟨rfl, HB.out⟩

theorem nInt8 (n : Int) (w : World) : Calls Try.prog 35 #[.pointer none, .int .i8 n] w fun e w' => e = .returned (.tuple #[]) ∧ Below w.heap.size w w' := by
  go_enter Try.func35, Try.ntmps35
  go_wp2_with fail
  refine (nAdd _ _).mono ?_
  rintro e w1 ⟨rfl, hw⟩
  have HB : Hid (Below w.heap.size w w1) := by rw [hw]; exact below_new _ _
  clear hw
  go_wp2
  go_end0
  exact ⟨rfl, HB.out⟩

theorem nUint32 (n : Int) (w : World) (hn : 0 ≤ n) (hn' : n < 4294967296) : Calls Try.prog 37 #[.pointer none, .int .u32 n] w fun e w' => e = .returned (.tuple #[]) ∧ Below w.heap.size w w' := by
  go_enter Try.func37, Try.ntmps37
  go_wp2_with fail
  refine (nAdd _ _).mono ?_
  rintro e w1 ⟨rfl, hw⟩
  have HB : Hid (Below w.heap.size w w1) := by rw [hw]; exact below_new _ _
  clear hw
  go_wp2
  go_end0
  exact ⟨rfl, HB.out⟩

theorem nInt32 (n : Int) (w : World) : Calls Try.prog 24 #[.pointer none, .int .i32 n] w fun e w' => e = .returned (.tuple #[]) ∧ Below w.heap.size w w' := by
  go_enter Try.func24, Try.ntmps24
  go_wp2_with fail
  refine (nUint32 (up32 n) _ (by unfold up32; omega) (by unfold up32; omega)).mono ?_
  rintro e w1 ⟨rfl, hp⟩
  have HB : Hid (Below w.heap.size w w1) := hp
  clear hp
  go_wp2
  go_end0
  exact ⟨rfl, HB.out⟩

theorem nPut64 (n : Int) (w : World) (hn : 0 ≤ n) (hn' : n ≤ 18446744073709551615) : Calls Try.prog 60 #[.pointer none, .int .u64 n] w fun e w' => e = .returned (.tuple #[]) ∧ Below w.heap.size w w' := by
  have hq : n / 4294967296 ≤ 4294967295 := by omega
  go_enter Try.func60, Try.ntmps60
  go_wp2_with fail
  refine (nUint32 (n / 4294967296) _ (by omega) (by omega)).mono ?_
  rintro e w1 ⟨rfl, hp⟩
  have HB1 : Hid (Below w.heap.size w w1) := hp
  clear hp
  go_wp2_with fail
  refine (nUint32 (n % 4294967296) _ (by omega) (by omega)).mono ?_
  rintro e w2 ⟨rfl, hp⟩
  have HB : Hid (Below w.heap.size w w2) := HB1.out.trans (hp.mono HB1.out.size)
  clear hp
  go_wp2
  go_end0
  exact ⟨rfl, HB.out⟩

theorem nInt64 (n : Int) (w : World) : Calls Try.prog 30 #[.pointer none, .int .i64 n] w fun e w' => e = .returned (.tuple #[]) ∧ Below w.heap.size w w' := by
  go_enter Try.func30, Try.ntmps30
  go_wp2_with fail
  refine (nPut64 (up64 n) _ (up64_bd n).1 (up64_bd n).2).mono ?_
  rintro e w1 ⟨rfl, hp⟩
  have HB : Hid (Below w.heap.size w w1) := hp
  clear hp
  go_wp2
  go_end0
  exact ⟨rfl, HB.out⟩

set_option maxHeartbeats 400000 in
theorem nFloat (x : Nat) (w : World) (hx : x < 18446744073709551616) : Calls Try.prog 39 #[.pointer none, .float .f64 x] w fun e w' => e = .returned (.tuple #[]) ∧ Below w.heap.size w w' := by
  by_cases c : 9218868437227405312 < x % 9223372036854775808
  · have f1 : (FloatKind.f64.format.order x x != some .eq) = true := by
      show (Ieee.double.order x x != some .eq) = true
      rw [nan_order x c]; rfl
    clear c
    go_enter Try.func39, Try.ntmps39
    go_wp2_with fail
    refine (nPut64 9221120237041090560 _ (by omega) (by omega)).mono ?_
    rintro e w1 ⟨rfl, hp⟩
    have HB : Hid (Below w.heap.size w w1) := hp
    clear hp
    go_wp2
    first | go_end0 | refine bodyPost_ret (results_none rfl _ _ _) rfl ?_
    exact ⟨rfl, HB.out⟩
  · have f1 : (FloatKind.f64.format.order x x != some .eq) = false := by
      show (Ieee.double.order x x != some .eq) = false
      rw [num_order x c]; rfl
    have hfb := floatBits_run x
    clear c
    go_enter Try.func39, Try.ntmps39
    go_wp2_with fail
    refine (nPut64 x _ (by omega) (by omega)).mono ?_
    rintro e w1 ⟨rfl, hp⟩
    have HB : Hid (Below w.heap.size w w1) := hp
    clear hp
    go_wp2
    go_end0
    exact ⟨rfl, HB.out⟩

theorem nRaw (u : Value) (w : World) : Calls Try.prog 6 #[.pointer none, u] w fun e w' => e = .returned (.tuple #[]) ∧ w' = w := by
  go_enter Try.func6, Try.ntmps6
  go_wp2_with fail
  refine (nAdd u _).mono ?_
  rintro e w1 ⟨rfl, rfl⟩
  go_wp2
  go_end0
  exact ⟨rfl, rfl⟩

theorem nBuffer (ao : Option Addr) (l cap : Nat) (w : World) (hl : l ≤ 2147483647) : Calls Try.prog 44 #[.pointer none, .slice ao l cap] w fun e w' => e = .returned (.tuple #[]) ∧ Below w.heap.size w w' := by
  go_enter Try.func44, Try.ntmps44
  go_wp2_with fail
  refine (nInt32 l _).mono ?_
  rintro e w1 ⟨rfl, hp⟩
  have HB : Hid (Below w.heap.size w w1) := hp
  clear hp
  go_wp2_with fail
  refine (nRaw _ _).mono ?_
  rintro e w2 ⟨rfl, rfl⟩
  go_wp2
  go_end0
  exact ⟨rfl, HB.out⟩

set_option maxHeartbeats 400000 in
theorem nText (s : ByteArray) (w : World) (hl : s.size ≤ 2147483647) : Calls Try.prog 41 #[.pointer none, .string s] w fun e w' => e = .returned (.tuple #[]) ∧ Below w.heap.size w w' := by
  have hcv := run_bytes_of_string (P := Try.prog) w 9 22 5 s Try.underlying9 Try.underlying22 Try.underlying5
  go_enter Try.func41, Try.ntmps41
  go_wp2_with fail
  refine (nBuffer _ _ _ _ hl).mono ?_
  rintro e w1 ⟨rfl, hp⟩
  have HB : Hid (Below w.heap.size w w1) := by
    have h0 : Below w.heap.size w w.drew := (Below.refl w.heap.size w).drew
    exact (h0.alloc (Nat.le_refl _) _).trans (hp.mono (by simp))
  clear hp
  go_wp2
  go_end0
  exact ⟨rfl, HB.out⟩

theorem nLen (w : World) : Calls Try.prog 20 #[.pointer none] w fun e w' => e = .returned (.int .i64 0) ∧ w' = w := by
  go_enter Try.func20, Try.ntmps20
  go_wp2
  go_ret
  exact ⟨rfl, rfl⟩

theorem nBytes (w : World) : Calls Try.prog 14 #[.pointer none] w fun e w' => e = .returned (.slice none 0 0) ∧ w' = w := by
  go_enter Try.func14, Try.ntmps14
  go_wp2
  go_ret
  exact ⟨rfl, rfl⟩

end Go.Proofs.Ytmjcpcpcngpdjab
