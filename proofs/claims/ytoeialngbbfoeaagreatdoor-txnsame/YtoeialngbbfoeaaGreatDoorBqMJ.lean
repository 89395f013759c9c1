/- What stands while TxnSame runs: the wide copies and the clones, each with its box behind its blocks. No Go function is walked here. -/
import Derived.Test.YtoeialngbbfoeaaGreatDoorCopyTJ
import Derived.Test.YtoeialngbbfoeaaGreatDoorBqGJ
import Derived.Test.YtoeialngbbfoeaaGreatDoorWeEJ
namespace Go.Proofs.YtoeialngbbfoeaaGreatDoor
open Go.RowKit
set_option maxRecDepth 8000

/-- A wide transaction: its request's blocks lie from p on, its box at M. -/
structure Wx (W : World) (p M : Nat) (t : TxD) (xs : List Value) : Prop where
  q : WidQ W (fun k => p ≤ k ∧ k < M) xs t.rq
  box : W.heap[M]? = some (.cells (txHead t ++ xs).toArray 35 (0, 0))
/-- A clone: its request's blocks, in order, from p on, its box at M. -/
structure Cx (W : World) (p M : Nat) (t : TxD) (cs : List Value) : Prop where
  q : OwnQ W p M cs t.rq
  box : W.heap[M]? = some (.cells (txHead t ++ cs).toArray 35 (0, 0))

section
variable {W W' : World} {p M : Nat} {t : TxD} {xs : List Value} {S : Nat → Prop}
theorem Wx.kept (h : Wx W p M t xs) (hk : Kept W W' S) (hS : ∀ k, p ≤ k → k < M → ¬ S k) (hM : ¬ S M) : Wx W' p M t xs :=
  ⟨WidQ.kept (F' := fun k => p ≤ k ∧ k < M) hk (fun k hq => ⟨hS k hq.1 hq.2, hq⟩) h.q, hk.heap h.box hM⟩
theorem Wx.later (h : Wx W p M t xs) (hb : Below W.heap.size W W') : Wx W' p M t xs :=
  h.kept (Below.kept hb) (fun k _ k2 e => by have e1 : W.heap.size ≤ k := e; have := lt_of_block h.box; omega) (fun e => by have e1 : W.heap.size ≤ M := e; have := lt_of_block h.box; omega)
theorem Wx.sees (h : Wx W p M t xs) (hp : t.rq.parts ≤ 20000) : SeesTx W (txHead t ++ xs) t := ⟨_, rfl, h.q.sees hp⟩
theorem Cx.kept (h : Cx W p M t xs) (hk : Kept W W' S) (hS : ∀ k, p ≤ k → k < M → ¬ S k) (hM : ¬ S M) : Cx W' p M t xs :=
  ⟨OwnQ.kept hk h.q hS, hk.heap h.box hM⟩
theorem Cx.later (h : Cx W p M t xs) (hb : Below W.heap.size W W') : Cx W' p M t xs :=
  h.kept (Below.kept hb) (fun k _ k2 e => by have e1 : W.heap.size ≤ k := e; have := lt_of_block h.box; omega) (fun e => by have e1 : W.heap.size ≤ M := e; have := lt_of_block h.box; omega)
theorem Cx.sees (h : Cx W p M t xs) : SeesTx W (txHead t ++ xs) t := ⟨_, rfl, h.q.sees⟩
end

end Go.Proofs.YtoeialngbbfoeaaGreatDoor
