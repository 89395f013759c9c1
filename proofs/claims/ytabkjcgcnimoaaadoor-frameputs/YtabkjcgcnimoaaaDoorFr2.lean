/- Two arrays of eight bytes held against each other; a frame's bytes. -/
import Derived.Test.YtabkjcgcnimoaaaDoorFr
import Derived.ChangeKeysEq
namespace Go.Proofs.YtabkjcgcnimoaaaDoor
open Go.RowKit
set_option maxRecDepth 8000

theorem plainByte : Tryd.prog.plainKey 5 = true := by kernel_rfl
theorem cellsByte : Tryd.prog.cellsOf 5 = 1 := by kernel_rfl

theorem run_items (d : Nat) (xs ys : List Int) (w : World) : ∀ is : List Nat, (∀ i ∈ is, i < xs.length ∧ i < ys.length) →
    (Op.eqItems (d + 1) 5 1 (xs.map (Value.int .u8)).toArray (ys.map (Value.int .u8)).toArray is).run Tryd.prog w = .ok (is.all fun i => xs.getD i 0 == ys.getD i 0) w
  | [], _ => by simp [Op.eqItems]
  | i :: is, h => by
    obtain ⟨h1, h2⟩ := h i (by simp)
    have hx : (xs.map (Value.int .u8)).toArray[i]? = some (.int .u8 (xs.getD i 0)) := by simp [List.getD_eq_getElem?_getD, h1]
    have hy : (ys.map (Value.int .u8)).toArray[i]? = some (.int .u8 (ys.getD i 0)) := by simp [List.getD_eq_getElem?_getD, h2]
    have p1 := run_part_plain (P := Tryd.prog) w plainByte hx
    have p2 := run_part_plain (P := Tryd.prog) w plainByte hy
    have p3 := run_equalIn_int (P := Tryd.prog) w d 5 .u8 .u8 (xs.getD i 0) (ys.getD i 0) Tryd.underlying5
    have ih := run_items d xs ys w is (fun j hj => h j (by simp [hj]))
    simp only [Op.eqItems, Nat.mul_one, Sem.run_bind, p1, p2, p3, Result.andThen_ok, List.all_cons]
    cases hq : (xs.getD i 0 == ys.getD i 0)
    · simp
    · simpa using ih

theorem run_neq8 (xs ys : List Int) (hx : xs.length = 8) (hy : ys.length = 8) (w : World) :
    (binOp .neq 56 (.agg (xs.map (Value.int .u8)).toArray) (.agg (ys.map (Value.int .u8)).toArray)).run Tryd.prog w = .ok (.bool (!decide (xs = ys))) w := by
  obtain ⟨i0, hi, _⟩ := info_parts Tryd.infoByte'
  rw [run_neq_struct, run_equalIn_array (P := Tryd.prog) w 9999 _ _ Tryd.underlying56 hi, cellsByte, run_items 9998 xs ys w (List.range 8) (fun i hi => by simp at hi; omega)]
  simp only [Result.andThen_ok]
  congr 3
  rw [Bool.eq_iff_iff]
  simp only [List.all_eq_true, List.mem_range, decide_eq_true_eq, beq_iff_eq]
  constructor
  · intro h
    exact list_of_nths (by omega) (fun j hj => h j (by omega))
  · intro h i _
    rw [h]

/-- A body's frame. -/
def frameL (xs : List Int) : List Int := headL xs ++ (xs ++ [66])

theorem headL_len (xs : List Int) : (headL xs).length = 8 := by simp [headL, be4]
theorem frameL_len (xs : List Int) : (frameL xs).length = xs.length + 9 := by simp [frameL, headL_len]; omega

/-- The length of the body whose frame stands whole at the beginning; 0: none does. -/
def bodyLen (xs : List Int) : Nat :=
  if xs.length < 9 then 0 else
  let n := num (xs.take 4)
  if n > (xs.length : Int) - 9 ∨ isSz n = false then 0
  else if xs.getD (8 + n.toNat) 0 ≠ 66 ∨ xs.take 8 ≠ headL ((xs.drop 8).take n.toNat) then 0 else n.toNat

end Go.Proofs.YtabkjcgcnimoaaaDoor
