/- The letters of permissions: acl.bitOf. -/
import Derived.Test.YtadidhgaeegokaaDoorQcG
namespace Go.Proofs.YtadidhgaeegokaaDoor
open Go.RowKit Go.Shelf
set_option maxRecDepth 8000

/-- The table of letters stands. -/
def Ltr (w : World) : Prop := w.cell? ⟨0, 0, none⟩ = some (.int .i32 99) ∧ w.cell? ⟨0, 1, none⟩ = some (.int .u8 2) ∧ w.cell? ⟨0, 2, none⟩ = some (.int .i32 100) ∧ w.cell? ⟨0, 3, none⟩ = some (.int .u8 3) ∧ w.cell? ⟨0, 4, none⟩ = some (.int .i32 114) ∧ w.cell? ⟨0, 5, none⟩ = some (.int .u8 0) ∧ w.cell? ⟨0, 6, none⟩ = some (.int .i32 119) ∧ w.cell? ⟨0, 7, none⟩ = some (.int .u8 1) ∧ w.cell? ⟨0, 8, none⟩ = some (.int .i32 97) ∧ w.cell? ⟨0, 9, none⟩ = some (.int .u8 4)

theorem Ltr.below {w w' : World} (h : Ltr w) (hB : Below w.heap.size w w') : Ltr w' := by
  obtain ⟨h0, h1, h2, h3, h4, h5, h6, h7, h8, h9⟩ := h
  exact ⟨cell_below hB h0, cell_below hB h1, cell_below hB h2, cell_below hB h3, cell_below hB h4, cell_below hB h5, cell_below hB h6, cell_below hB h7, cell_below hB h8, cell_below hB h9⟩

theorem Below.alloc1 {B : Nat} (w : World) (o : Obj) (h : B ≤ w.heap.size) : Below B w (w.alloc o) := (Below.refl _ _).alloc h o

abbrev ltrA : Array Value := #[.int .i32 99, .int .u8 2, .int .i32 100, .int .u8 3, .int .i32 114, .int .u8 0, .int .i32 119, .int .u8 1, .int .i32 97, .int .u8 4]
theorem ltr0 (W : World) : (Instr.index 52 (.agg ltrA) (.int .i64 0)).run Tryd.prog W = .ok (.agg #[.int .i32 99, .int .u8 2]) W := by
  kernel_rfl
theorem ltr1 (W : World) : (Instr.index 52 (.agg ltrA) (.int .i64 1)).run Tryd.prog W = .ok (.agg #[.int .i32 100, .int .u8 3]) W := by
  kernel_rfl
theorem ltr2 (W : World) : (Instr.index 52 (.agg ltrA) (.int .i64 2)).run Tryd.prog W = .ok (.agg #[.int .i32 114, .int .u8 0]) W := by
  kernel_rfl
theorem ltr3 (W : World) : (Instr.index 52 (.agg ltrA) (.int .i64 3)).run Tryd.prog W = .ok (.agg #[.int .i32 119, .int .u8 1]) W := by
  kernel_rfl
theorem ltr4 (W : World) : (Instr.index 52 (.agg ltrA) (.int .i64 4)).run Tryd.prog W = .ok (.agg #[.int .i32 97, .int .u8 4]) W := by
  kernel_rfl

/-- A sign's bit. -/
def bitV (r : Int) : Int := if r = 99 then 4 else if r = 100 then 8 else if r = 114 then 1 else if r = 119 then 2 else if r = 97 then 16 else 0

/-- None of the first k letters is this sign. -/
def noL (r : Int) (k : Nat) : Prop := ∀ j, j < k → r ≠ ([99, 100, 114, 119, 97] : List Int).getD j 0

set_option maxHeartbeats 1000000 in
theorem bitOf_any (r : Int) (w : World) (hL : Ltr w) :
    Calls Tryd.prog 23 #[.int .i32 r] w fun e w' => e = .returned (.int .i8 (bitV r)) ∧ Below w.heap.size w w' := by
  obtain ⟨h0, h1, h2, h3, h4, h5, h6, h7, h8, h9⟩ := hL
  obtain ⟨val, hval⟩ : ∃ val, val = bitV r := ⟨_, rfl⟩
  rw [← hval]
  have HV : Hid (val = bitV r) := hval
  clear hval
  go_enter Tryd.func23, Tryd.ntmps23
  go_wp2
  clear h0 h1 h2 h3 h4 h5 h6 h7 h8 h9
  go_loopw [6] (fun vi wr => ∃ (k : Nat), k ≤ 5 ∧ vi = .int .i64 (k : Int) ∧ Hid (noL r k) ∧ Hid (Below w.heap.size w wr)) (fun vi _ => 5 - (intOf vi).toNat)
  case atStart => exact ⟨0, by omega, rfl, fun j hj => by omega, Below.refl _ _⟩
  case round =>
    obtain ⟨k, hk, rfl, HN, HB⟩ := hrel
    have hk6 : k = 0 ∨ k = 1 ∨ k = 2 ∨ k = 3 ∨ k = 4 ∨ k = 5 := by omega
    rcases hk6 with hk6 | hk6 | hk6 | hk6 | hk6 | hk6
    · have e : (k : Int) = 0 := by omega
      rw [e]
      have hi := ltr0
      by_cases hr : r = 99
      · have HX : Hid (val = 4) := by show _ = _; rw [HV.out, hr]; rfl
        have hq : ((99 : Int) == r) = true := by rw [hr]; rfl
        clear HV HN hr
        go_wp2
        go_ret
        exact ⟨by rw [HX.out]; rfl, HB.out.trans (Below.alloc1 _ _ HB.out.size)⟩
      · have HX : Hid (noL r (k + 1)) := by
          intro j hj
          by_cases hj2 : j < k
          · exact HN.out j hj2
          · obtain rfl : j = 0 := by omega
            exact hr
        have hq : ((99 : Int) == r) = false := by rw [beq_eq_false_iff_ne]; exact fun h => hr h.symm
        clear HV HN hr
        go_wp2
        go_roundw
        case rel => exact ⟨k + 1, by omega, by rw [hk6]; rfl, HX, HB.out.trans (Below.alloc1 _ _ HB.out.size)⟩
        case measure => simp [intOf]
    · have e : (k : Int) = 1 := by omega
      rw [e]
      have hi := ltr1
      by_cases hr : r = 100
      · have HX : Hid (val = 8) := by show _ = _; rw [HV.out, hr]; rfl
        have hq : ((100 : Int) == r) = true := by rw [hr]; rfl
        clear HV HN hr
        go_wp2
        go_ret
        exact ⟨by rw [HX.out]; rfl, HB.out.trans (Below.alloc1 _ _ HB.out.size)⟩
      · have HX : Hid (noL r (k + 1)) := by
          intro j hj
          by_cases hj2 : j < k
          · exact HN.out j hj2
          · obtain rfl : j = 1 := by omega
            exact hr
        have hq : ((100 : Int) == r) = false := by rw [beq_eq_false_iff_ne]; exact fun h => hr h.symm
        clear HV HN hr
        go_wp2
        go_roundw
        case rel => exact ⟨k + 1, by omega, by rw [hk6]; rfl, HX, HB.out.trans (Below.alloc1 _ _ HB.out.size)⟩
        case measure => simp [intOf]
    · have e : (k : Int) = 2 := by omega
      rw [e]
      have hi := ltr2
      by_cases hr : r = 114
      · have HX : Hid (val = 1) := by show _ = _; rw [HV.out, hr]; rfl
        have hq : ((114 : Int) == r) = true := by rw [hr]; rfl
        clear HV HN hr
        go_wp2
        go_ret
        exact ⟨by rw [HX.out]; rfl, HB.out.trans (Below.alloc1 _ _ HB.out.size)⟩
      · have HX : Hid (noL r (k + 1)) := by
          intro j hj
          by_cases hj2 : j < k
          · exact HN.out j hj2
          · obtain rfl : j = 2 := by omega
            exact hr
        have hq : ((114 : Int) == r) = false := by rw [beq_eq_false_iff_ne]; exact fun h => hr h.symm
        clear HV HN hr
        go_wp2
        go_roundw
        case rel => exact ⟨k + 1, by omega, by rw [hk6]; rfl, HX, HB.out.trans (Below.alloc1 _ _ HB.out.size)⟩
        case measure => simp [intOf]
    · have e : (k : Int) = 3 := by omega
      rw [e]
      have hi := ltr3
      by_cases hr : r = 119
      · have HX : Hid (val = 2) := by show _ = _; rw [HV.out, hr]; rfl
        have hq : ((119 : Int) == r) = true := by rw [hr]; rfl
        clear HV HN hr
        go_wp2
        go_ret
        exact ⟨by rw [HX.out]; rfl, HB.out.trans (Below.alloc1 _ _ HB.out.size)⟩
      · have HX : Hid (noL r (k + 1)) := by
          intro j hj
          by_cases hj2 : j < k
          · exact HN.out j hj2
          · obtain rfl : j = 3 := by omega
            exact hr
        have hq : ((119 : Int) == r) = false := by rw [beq_eq_false_iff_ne]; exact fun h => hr h.symm
        clear HV HN hr
        go_wp2
        go_roundw
        case rel => exact ⟨k + 1, by omega, by rw [hk6]; rfl, HX, HB.out.trans (Below.alloc1 _ _ HB.out.size)⟩
        case measure => simp [intOf]
    · have e : (k : Int) = 4 := by omega
      rw [e]
      have hi := ltr4
      by_cases hr : r = 97
      · have HX : Hid (val = 16) := by show _ = _; rw [HV.out, hr]; rfl
        have hq : ((97 : Int) == r) = true := by rw [hr]; rfl
        clear HV HN hr
        go_wp2
        go_ret
        exact ⟨by rw [HX.out]; rfl, HB.out.trans (Below.alloc1 _ _ HB.out.size)⟩
      · have HX : Hid (noL r (k + 1)) := by
          intro j hj
          by_cases hj2 : j < k
          · exact HN.out j hj2
          · obtain rfl : j = 4 := by omega
            exact hr
        have hq : ((97 : Int) == r) = false := by rw [beq_eq_false_iff_ne]; exact fun h => hr h.symm
        clear HV HN hr
        go_wp2
        go_roundw
        case rel => exact ⟨k + 1, by omega, by rw [hk6]; rfl, HX, HB.out.trans (Below.alloc1 _ _ HB.out.size)⟩
        case measure => simp [intOf]
    · have e : (k : Int) = 5 := by omega
      rw [e]
      have HX : Hid (val = 0) := by
        show _ = _
        have h0 := HN.out 0 (by omega)
        have h1 := HN.out 1 (by omega)
        have h2 := HN.out 2 (by omega)
        have h3 := HN.out 3 (by omega)
        have h4 := HN.out 4 (by omega)
        simp only [List.getD_cons_zero, List.getD_cons_succ] at h0 h1 h2 h3 h4
        rw [HV.out]
        unfold bitV
        rw [if_neg h0, if_neg h1, if_neg h2, if_neg h3, if_neg h4]
      clear HV HN
      go_wp2
      go_ret
      exact ⟨by rw [HX.out]; rfl, HB.out⟩

end Go.Proofs.YtadidhgaeegokaaDoor
