/- An Acks in memory; isNone, NewAcks. -/
import Derived.Test.YtlnoighjdmjdeaaQuD
namespace Go.Proofs.Ytlnoighjdmjdeaa
open Go.RowKit Go.Shelf
set_option maxRecDepth 8000

/-- What servers have acknowledged: which ones have, and up to where. -/
structure AcD where
  so : Nat
  e : Nat → Int
  m : Nat → Int
/-- The cells of an Acks. -/
def acV (s : Nat) (A : AcD) (k : Nat) : Value := if k = 0 then .pointer (some ⟨s, 0, none⟩) else if k = 1 then .bool true else if k = 2 then .int .u8 (A.so : Int) else if (k - 3) % 2 = 0 then .int .u32 (A.e ((k - 3) / 2)) else .int .u32 (A.m ((k - 3) / 2))
/-- An Acks in memory. -/
def IsAc (w : World) (p s : Nat) (A : AcD) : Prop := w.rowIs p 41 17 (acV s A)
theorem IsAc.lt {w : World} {p s : Nat} {A : AcD} (h : IsAc w p s A) : p < w.heap.size := World.rowIs.lt h
theorem IsAc.kept {w w' : World} {S : Nat → Prop} {p s : Nat} {A : AcD} (h : IsAc w p s A) (hk : Kept w w' S) (hn : ¬ S p) : IsAc w' p s A := by
  obtain ⟨c, h1, h2⟩ := h
  exact ⟨c, hk.heap h1 hn, h2⟩
theorem IsAc.below {w w' : World} {p s : Nat} {A : AcD} {n : Nat} (h : IsAc w p s A) (hk : Below n w w') (hn : p < n) : IsAc w' p s A := h.kept (Below.kept hk) (fun e => by omega)
theorem IsAc.c0 {w : World} {p s : Nat} {A : AcD} (h : IsAc w p s A) : w.cell? ⟨p, 0, none⟩ = some (.pointer (some ⟨s, 0, none⟩)) := World.rowIs.cell h (by omega)
theorem IsAc.c1 {w : World} {p s : Nat} {A : AcD} (h : IsAc w p s A) : w.cell? ⟨p, 1, none⟩ = some (.bool true) := World.rowIs.cell h (by omega)
theorem IsAc.c2 {w : World} {p s : Nat} {A : AcD} (h : IsAc w p s A) : w.cell? ⟨p, 2, none⟩ = some (.int .u8 (A.so : Int)) := World.rowIs.cell h (by omega)
theorem IsAc.ce {w : World} {p s : Nat} {A : AcD} (h : IsAc w p s A) {i : Nat} (hi : i < 7) : w.cell? ⟨p, 3 + i * 2, none⟩ = some (.int .u32 (A.e i)) := by
  have := World.rowIs.cell h (i := 3 + i * 2) (by omega)
  rw [this]
  unfold acV
  rw [if_neg (by omega), if_neg (by omega), if_neg (by omega), if_pos (by omega), show (3 + i * 2 - 3) / 2 = i by omega]
theorem IsAc.cm {w : World} {p s : Nat} {A : AcD} (h : IsAc w p s A) {i : Nat} (hi : i < 7) : w.cell? ⟨p, 3 + i * 2 + 1, none⟩ = some (.int .u32 (A.m i)) := by
  have := World.rowIs.cell h (i := 3 + i * 2 + 1) (by omega)
  rw [this]
  unfold acV
  rw [if_neg (by omega), if_neg (by omega), if_neg (by omega), if_neg (by omega), show (3 + i * 2 + 1 - 3) / 2 = i by omega]

theorem isNone_ac {w : World} {p s : Nat} {D : SyD} {A : AcD} (hD : D.Good) (h : IsSy w s D) (ha : IsAc w p s A) : Calls Try.prog 33 #[.pointer (some ⟨p, 0, none⟩)] w fun e w' => e = .returned (.bool false) ∧ w' = w := by
  have HN : Hid (Calls Try.prog 31 #[.pointer (some ⟨s, 0, none⟩)] w fun e w' => e = .returned (.bool false) ∧ w' = w) := isNone_sy hD h
  have c0 := ha.c0
  have c1 := ha.c1
  have hz := ha.lt
  clear h hD ha
  go_enter Try.func33, Try.ntmps33
  go_wp2_with fail
  refine Calls.mono HN.out ?_
  rintro e w1 ⟨rfl, hw1⟩
  rw [hw1]
  clear hw1 HN
  go_wp2
  all_goals (go_ret; exact ⟨rfl, rfl⟩)
theorem isNone_acNil (w : World) : Calls Try.prog 33 #[.pointer none] w fun e w' => e = .returned (.bool true) ∧ w' = w := by
  go_enter Try.func33, Try.ntmps33
  go_wp2
  all_goals (go_ret; exact ⟨rfl, rfl⟩)
theorem isNone_acBare {w : World} {p : Nat} (c1 : w.cell? ⟨p, 1, none⟩ = some (.bool false)) : Calls Try.prog 33 #[.pointer (some ⟨p, 0, none⟩)] w fun e w' => e = .returned (.bool true) ∧ w' = w := by
  go_enter Try.func33, Try.ntmps33
  go_wp2
  all_goals (go_ret; exact ⟨rfl, rfl⟩)

/-- Nobody has acknowledged anything. -/
def ac0 : AcD := ⟨0, fun _ => 0, fun _ => 0⟩
theorem newAcks_yes {w : World} {s : Nat} {D : SyD} (hD : D.Good) (h : IsSy w s D) : Calls Try.prog 12 #[.pointer (some ⟨s, 0, none⟩)] w fun e w' => e = .returned (.tuple #[.pointer (some ⟨w.heap.size, 0, none⟩), .int .i64 0]) ∧ IsAc w' w.heap.size s ac0 ∧ Below w.heap.size w w' := by
  have HN : Hid (Calls Try.prog 31 #[.pointer (some ⟨s, 0, none⟩)] w fun e w' => e = .returned (.bool false) ∧ w' = w) := isNone_sy hD h
  have HR : Hid (IsAc (w.alloc (.cells #[.pointer (some ⟨s, 0, none⟩), .bool true, .int .u8 0, .int .u32 0, .int .u32 0, .int .u32 0, .int .u32 0, .int .u32 0, .int .u32 0, .int .u32 0, .int .u32 0, .int .u32 0, .int .u32 0, .int .u32 0, .int .u32 0, .int .u32 0, .int .u32 0] 41)) w.heap.size s ac0) := by
    refine World.rowIs_alloc w _ _ _ (fun i hi => ?_)
    have h7 : i < 17 := hi
    have h8 : i = 0 ∨ i = 1 ∨ i = 2 ∨ i = 3 ∨ i = 4 ∨ i = 5 ∨ i = 6 ∨ i = 7 ∨ i = 8 ∨ i = 9 ∨ i = 10 ∨ i = 11 ∨ i = 12 ∨ i = 13 ∨ i = 14 ∨ i = 15 ∨ i = 16 := by omega
    rcases h8 with rfl | rfl | rfl | rfl | rfl | rfl | rfl | rfl | rfl | rfl | rfl | rfl | rfl | rfl | rfl | rfl | rfl <;> rfl
  have HB : Hid (∀ o, Below w.heap.size w (w.alloc o)) := fun o => one_alloc w o
  clear h hD
  go_enter Try.func12, Try.ntmps12
  go_wp2_with fail
  refine Calls.mono HN.out ?_
  rintro e w1 ⟨rfl, hw1⟩
  rw [hw1]
  clear hw1 HN
  go_wp2
  all_goals (go_ret2; exact ⟨rfl, HR.out, HB.out _⟩)
theorem newAcks_nil (w : World) : Calls Try.prog 12 #[.pointer none] w fun e w' => e = .returned (.tuple #[.pointer none, .int .i64 1]) ∧ w' = w := by
  have HN : Hid (Calls Try.prog 31 #[.pointer none] w fun e w' => e = .returned (.bool true) ∧ w' = w) := isNone_syNil w
  go_enter Try.func12, Try.ntmps12
  go_wp2_with fail
  refine Calls.mono HN.out ?_
  rintro e w1 ⟨rfl, hw1⟩
  rw [hw1]
  clear hw1 HN
  go_wp2
  all_goals (go_ret2; exact ⟨rfl, rfl⟩)
theorem newAcks_zero {w : World} {s : Nat} (hc : Wh w s (fun _ => 0)) : Calls Try.prog 12 #[.pointer (some ⟨s, 0, none⟩)] w fun e w' => e = .returned (.tuple #[.pointer none, .int .i64 1]) ∧ w' = w := by
  have HN : Hid (Calls Try.prog 31 #[.pointer (some ⟨s, 0, none⟩)] w fun e w' => e = .returned (.bool true) ∧ w' = w) := isNone_zero hc
  clear hc
  go_enter Try.func12, Try.ntmps12
  go_wp2_with fail
  refine Calls.mono HN.out ?_
  rintro e w1 ⟨rfl, hw1⟩
  rw [hw1]
  clear hw1 HN
  go_wp2
  all_goals (go_ret2; exact ⟨rfl, rfl⟩)

/-- Has a server acknowledged up to a zxid? -/
def AcD.rea (A : AcD) (i : Nat) (e m : Int) : Bool := A.so.testBit i && decide (0 ≤ zcmp (A.e i) (A.m i) e m)

end Go.Proofs.Ytlnoighjdmjdeaa
