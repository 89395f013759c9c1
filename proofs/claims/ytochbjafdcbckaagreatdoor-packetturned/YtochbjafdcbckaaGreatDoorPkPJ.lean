/- What the bits of each kind of packet say, as data; no Go function is walked here. -/
import Derived.Test.YtochbjafdcbckaaGreatDoorPkOJ
namespace Go.Proofs.YtochbjafdcbckaaGreatDoor
open Go.RowKit
set_option maxRecDepth 8000

theorem fl_9 : flN 9 12 = [0, 3] := by decide +kernel
theorem am_9 : ∀ c l p e u z v o f t b s : Bool, (bits .andNot .u16 (fillM c l p e u z v o f t b s) 9 != 0) = (l || p || u || z || v || o || f || t || b || s) := by decide +kernel
theorem fl_15 : flN 15 12 = [0, 1, 2, 3] := by decide +kernel
theorem am_15 : ∀ c l p e u z v o f t b s : Bool, (bits .andNot .u16 (fillM c l p e u z v o f t b s) 15 != 0) = (u || z || v || o || f || t || b || s) := by decide +kernel
theorem fl_191 : flN 191 12 = [0, 1, 2, 3, 4, 5, 7] := by decide +kernel
theorem am_191 : ∀ c l p e u z v o f t b s : Bool, (bits .andNot .u16 (fillM c l p e u z v o f t b s) 191 != 0) = (v || f || t || b || s) := by decide +kernel
theorem fl_39 : flN 39 12 = [0, 1, 2, 5] := by decide +kernel
theorem am_39 : ∀ c l p e u z v o f t b s : Bool, (bits .andNot .u16 (fillM c l p e u z v o f t b s) 39 != 0) = (e || u || v || o || f || t || b || s) := by decide +kernel
theorem fl_583 : flN 583 12 = [0, 1, 2, 6, 9] := by decide +kernel
theorem am_583 : ∀ c l p e u z v o f t b s : Bool, (bits .andNot .u16 (fillM c l p e u z v o f t b s) 583 != 0) = (e || u || z || o || f || b || s) := by decide +kernel
theorem fl_1287 : flN 1287 12 = [0, 1, 2, 8, 10] := by decide +kernel
theorem am_1287 : ∀ c l p e u z v o f t b s : Bool, (bits .andNot .u16 (fillM c l p e u z v o f t b s) 1287 != 0) = (e || u || z || v || o || t || s) := by decide +kernel
theorem fl_47 : flN 47 12 = [0, 1, 2, 3, 5] := by decide +kernel
theorem am_47 : ∀ c l p e u z v o f t b s : Bool, (bits .andNot .u16 (fillM c l p e u z v o f t b s) 47 != 0) = (u || v || o || f || t || b || s) := by decide +kernel
theorem fl_519 : flN 519 12 = [0, 1, 2, 9] := by decide +kernel
theorem am_519 : ∀ c l p e u z v o f t b s : Bool, (bits .andNot .u16 (fillM c l p e u z v o f t b s) 519 != 0) = (e || u || z || v || o || f || b || s) := by decide +kernel
theorem fl_2055 : flN 2055 12 = [0, 1, 2, 11] := by decide +kernel
theorem am_2055 : ∀ c l p e u z v o f t b s : Bool, (bits .andNot .u16 (fillM c l p e u z v o f t b s) 2055 != 0) = (e || u || z || v || o || f || t || b) := by decide +kernel

/-- The kinds. -/
theorem kinds {k : Int} (h : nmP k ≠ 0) : 1 ≤ k ∧ k ≤ 14 := by
  unfold nmP at h
  split at h
  · exact absurd rfl h
  · omega

end Go.Proofs.YtochbjafdcbckaaGreatDoor
