/- DiskCrash of the statements of layer 2, walked: true for every room, script and list of what is kept. -/
import Derived.Test.YtbdokdhconhifaaGreatDoorDkSJ
import Derived.Test.YtbdokdhconhifaaGreatDoorDnHJ
namespace Go.Proofs.YtbdokdhconhifaaGreatDoor
open Go.RowKit Go.Shelf
set_option maxRecDepth 8000

/-- A disk that was made behind w, some calls later. -/
structure Run (w : World) (p : Nat) (wr : World) (fv : Value) (ms : List FiM) (D : DkD) (k : Nat) : Prop where
  is : IsDk wr p fv ms D
  ok : DkOk D
  writes : D.writes ≤ k
  bel : Below w.heap.size w wr
  apart : ∀ j ∈ foot p fv ms, w.heap.size ≤ j

theorem Run.to {w : World} {p : Nat} {wr wr' : World} {fv fv' : Value} {ms ms' : List FiM} {D D' : DkD} {k k' : Nat} (h : Run w p wr fv ms D k) (ht : DkTo wr p fv ms wr' D' fv' ms') (ok : DkOk D') (hw : D'.writes ≤ k') : Run w p wr' fv' ms' D' k' :=
  ⟨ht.is, ok, hw, h.bel.trans (ht.kept.below h.bel.size (fun j e => h.apart j e)), fun j hj => by
    rcases ht.foot j hj with e | e
    · exact h.apart j e
    · exact Nat.le_trans h.bel.size e⟩

theorem Run.later {w : World} {p : Nat} {wr wr' : World} {fv : Value} {ms : List FiM} {D : DkD} {k : Nat} (h : Run w p wr fv ms D k) (hb : Below wr.heap.size wr wr') : Run w p wr' fv ms D k :=
  ⟨h.is.later hb, h.ok, h.writes, Below.step h.bel hb, h.apart⟩

theorem Run.free {w : World} {p : Nat} {wr : World} {fv : Value} {ms : List FiM} {D : DkD} {k : Nat} (h : Run w p wr fv ms D k) (j : Nat) (hj : j < w.heap.size) : j < wr.heap.size ∧ j ∉ foot p fv ms :=
  ⟨Nat.lt_of_lt_of_le hj h.bel.size, fun e => by have := h.apart j e; omega⟩

theorem off_writes (D : DkD) : D.off.writes = D.writes := by unfold DkD.off; split <;> rfl
theorem start_writes (D : DkD) (ks : List Int) : (D.start ks).writes = D.writes := by unfold DkD.start; split <;> rfl
theorem arm_writes (D : DkD) (n : Int) : (D.arm n).writes = D.writes := by unfold DkD.arm; split <;> rfl

end Go.Proofs.YtbdokdhconhifaaGreatDoor