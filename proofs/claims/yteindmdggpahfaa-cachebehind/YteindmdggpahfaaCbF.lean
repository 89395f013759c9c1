/- Put of every ring of transactions. -/
import Derived.Test.YteindmdggpahfaaCbE
namespace Go.Proofs.Yteindmdggpahfaa
open Go.RowKit
set_option maxRecDepth 8000
set_option linter.unusedSimpArgs false

set_option maxHeartbeats 4000000 in
theorem putZ_zero {T : TypeId} {N : Nat} {w : World} {p : Nat} {xs : List (List Value)} (h : IsRz T N w p 0 xs) (t0 t1 t2 t3 t4 : Int) (x0 : Int) (x1 : ByteArray) (x2 : Option Addr) (x3 x4 : Nat) (x5 : Option Addr) (x6 x7 : Nat) (x8 : Int) (x9 x10 : Bool) (x11 x12 : Int) (x13 : Option Addr) (x14 x15 : Nat) (x16 : Option Addr) (x17 x18 : Nat) :
    Calls Try.prog 19 #[.pointer (some ⟨p, 0, none⟩), .agg #[.int .u32 t0, .int .u32 t1, .int .i8 t2, .int .u32 t3, .int .i64 t4, .int .i8 x0, .string x1, .slice x2 x3 x4, .slice x5 x6 x7, .int .i32 x8, .bool x9, .bool x10, .int .i64 x11, .int .i32 x12, .slice x13 x14 x15, .slice x16 x17 x18]] w fun e w' => e = .returned (.tuple #[]) ∧ Below w.heap.size w w' := by
  obtain ⟨V, hV⟩ : ∃ V, V = w.alloc (.cells #[.int .u32 t0, .int .u32 t1, .int .i8 t2, .int .u32 t3, .int .i64 t4, .int .i8 x0, .string x1, .slice x2 x3 x4, .slice x5 x6 x7, .int .i32 x8, .bool x9, .bool x10, .int .i64 x11, .int .i32 x12, .slice x13 x14 x15, .slice x16 x17 x18] 43) := ⟨_, rfl⟩
  have h1 : IsRz T N V p 0 xs := h.of_block (by rw [hV]; exact Below.heap_alloc _ _ _ h.lt)
  have hbl : Below w.heap.size w V := by rw [hV]; exact (Below.refl _ _).alloc (Nat.le_refl _) _
  have HB : Hid _ := hbl
  have HE : Hid _ := hV
  obtain ⟨hN, first, f, hr, hf⟩ := h1
  have c64 := hr.cell (i := 1024) (by omega)
  rw [hf.cm] at c64
  have hl := hr.lt
  clear hr hf h hbl hV
  go_enter Try.func19, Try.ntmps19
  go_upto_region 1 with fail
  rw [← HE.out]
  clear HE
  go_wp2
  all_goals ((first | go_end0 | refine bodyPost_ret (results_none rfl _ _ _) rfl ?_); exact ⟨rfl, HB.out⟩)

theorem lastN_fullA {α : Type} {m : Nat} {xs : List α} (x : α) (hm0 : 0 < m) (hr : xs.length = m) : lastN m (xs ++ [x]) = xs.drop 1 ++ [x] := by
  unfold lastN
  rw [List.length_append, hr, show m + [x].length - m = 1 from by simp, List.drop_append_of_le_length (by omega)]

theorem putZ_any {T : TypeId} {N : Nat} {w : World} {p m : Nat} {xs : List (List Value)} (h : IsRz T N w p m xs) (t0 t1 t2 t3 t4 : Int) (x0 : Int) (x1 : ByteArray) (x2 : Option Addr) (x3 x4 : Nat) (x5 : Option Addr) (x6 x7 : Nat) (x8 : Int) (x9 x10 : Bool) (x11 x12 : Int) (x13 : Option Addr) (x14 x15 : Nat) (x16 : Option Addr) (x17 x18 : Nat) :
    Calls Try.prog 19 #[.pointer (some ⟨p, 0, none⟩), .agg #[.int .u32 t0, .int .u32 t1, .int .i8 t2, .int .u32 t3, .int .i64 t4, .int .i8 x0, .string x1, .slice x2 x3 x4, .slice x5 x6 x7, .int .i32 x8, .bool x9, .bool x10, .int .i64 x11, .int .i32 x12, .slice x13 x14 x15, .slice x16 x17 x18]] w fun e w' => e = .returned (.tuple #[]) ∧ IsRz T N w' p m (lastN m (xs ++ [[.int .u32 t0, .int .u32 t1, .int .i8 t2, .int .u32 t3, .int .i64 t4, .int .i8 x0, .string x1, .slice x2 x3 x4, .slice x5 x6 x7, .int .i32 x8, .bool x9, .bool x10, .int .i64 x11, .int .i32 x12, .slice x13 x14 x15, .slice x16 x17 x18]])) ∧ Kept w w' (· = p) := by
  have hfew : xs.length ≤ m := by obtain ⟨_, _, _, _, hf⟩ := h; exact hf.few
  by_cases h0 : m = 0
  · subst h0
    refine (putZ_zero h t0 t1 t2 t3 t4 x0 x1 x2 x3 x4 x5 x6 x7 x8 x9 x10 x11 x12 x13 x14 x15 x16 x17 x18).mono ?_
    rintro e w' ⟨rfl, hb⟩
    have : xs = [] := List.eq_nil_of_length_eq_zero (by omega)
    subst this
    have hk : Kept w w' (fun k => w.heap.size ≤ k) := Below.kept hb
    have hlt := h.lt
    exact ⟨rfl, by simpa [lastN] using h.kept hk (by omega), hk.mono (fun k h1 h2 => by omega)⟩
  · by_cases hroom : xs.length < m
    · refine (putZ_room h t0 t1 t2 t3 t4 x0 x1 x2 x3 x4 x5 x6 x7 x8 x9 x10 x11 x12 x13 x14 x15 x16 x17 x18 hroom).mono ?_
      rintro e w' ⟨rfl, h1, h2⟩
      rw [lastN_short (by simp; omega)]
      exact ⟨rfl, h1, h2⟩
    · refine (putZ_full h t0 t1 t2 t3 t4 x0 x1 x2 x3 x4 x5 x6 x7 x8 x9 x10 x11 x12 x13 x14 x15 x16 x17 x18 (by omega) (by omega)).mono ?_
      rintro e w' ⟨rfl, h1, h2⟩
      rw [lastN_fullA _ (by omega) (by omega)]
      exact ⟨rfl, h1, h2⟩
end Go.Proofs.Yteindmdggpahfaa
