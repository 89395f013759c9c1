/- What Address of the document's layer 6 answers. -/
import Derived.Test.YtapnaknbidmnmaaDoorQaA
namespace Go.Proofs.YtapnaknbidmnmaaDoor
open Go.RowKit
set_option maxRecDepth 8000

theorem dgs_len : ∀ (k : Nat) (l : Bs), (dgs k l).length ≤ l.length
  | 0, l => by cases l <;> simp [dgs]
  | k + 1, [] => by simp [dgs]
  | k + 1, b :: r => by
    rw [dgs]
    split
    · simp [dgs_len k r]
    · simp

theorem numR_some {l : Bs} {n m : Nat} (h : numR l = some (n, m)) : n ≤ 255 ∧ m ≤ l.length := by
  unfold numR at h
  split at h
  · simp at h
  · rename_i hc
    simp only [Option.some.injEq, Prod.mk.injEq] at h
    have := dgs_len 4 l
    omega

/-- Behind the dot that parts two numbers. -/
def dotR (l : Bs) (k at' : Nat) : Option Nat := if k = 0 then some at' else if at' < l.length ∧ l.getD at' 0 = 46 then some (at' + 1) else none

/-- So many numbers of an address, and the place behind them. -/
def adr (l : Bs) : Nat → Option (Nat × Nat)
  | 0 => some (0, 0)
  | k + 1 => match adr l k with
    | none => none
    | some (all, at') => match dotR l k at' with
      | none => none
      | some a => match numR (l.drop a) with
        | none => none
        | some (n, m) => some (all * 256 + n, a + m)

theorem adr_none {l : Bs} : ∀ {k j : Nat}, adr l k = none → adr l (k + j) = none
  | k, 0, h => h
  | k, j + 1, h => by
    rw [← Nat.add_assoc, adr, adr_none (j := j) h]

theorem adr_dot {l : Bs} {k all at' : Nat} (h : adr l k = some (all, at')) (hd : dotR l k at' = none) : adr l (k + 1) = none := by
  rw [adr, h]; simp only [hd]

theorem adr_num {l : Bs} {k all at' a : Nat} (h : adr l k = some (all, at')) (hd : dotR l k at' = some a) : adr l (k + 1) = (numR (l.drop a)).map fun x => (all * 256 + x.1, a + x.2) := by
  rw [adr, h]; simp only [hd]
  cases numR (l.drop a) with
  | none => rfl
  | some x => rfl

/-- What Address answers. -/
def addrV (l : Bs) : Value := match adr l 4 with
  | none => .tuple #[.int .i64 0, .int .i64 0, .bool false]
  | some (all, at') => .tuple #[.int .i64 (all : Int), .int .i64 (at' : Int), .bool true]

theorem addrV_none {l : Bs} {k : Nat} (hk : k < 4) (h : adr l (k + 1) = none) : addrV l = .tuple #[.int .i64 0, .int .i64 0, .bool false] := by
  have := adr_none (j := 3 - k) h
  rw [show k + 1 + (3 - k) = 4 by omega] at this
  unfold addrV
  rw [this]

def limA (k all : Nat) : Prop := (k = 0 ∧ all = 0) ∨ (k = 1 ∧ all < 256) ∨ (k = 2 ∧ all < 65536) ∨ (k = 3 ∧ all < 16777216) ∨ (k = 4 ∧ all < 4294967296)

end Go.Proofs.YtapnaknbidmnmaaDoor
