/- What number of the document's layer 6 answers: the number that a text bears at a place. -/
import Derived.Test.YtapnaknbidmnmaaDoorPaPJ
import Derived.Test.YtapnaknbidmnmaaDoorMemJ
import Derived.Test.YtapnaknbidmnmaaDoorChecked
import Derived.Lib.OthersKept
import Derived.BigQuiet
import Derived.Deep.QuietTactic
namespace Go.Proofs.YtapnaknbidmnmaaDoor
open Go.RowKit
set_option maxRecDepth 8000

theorem byteAt (s : ByteArray) (i : Nat) (h : i < s.size) : s[i] = s.data.toList.getD i 0 := by
  rw [List.getD_eq_getElem?_getD, List.getElem?_eq_getElem (by rw [← size_list]; exact h)]
  rfl

/-- A digit. -/
def isD (b : UInt8) : Bool := decide (48 ≤ b.toNat) && decide (b.toNat ≤ 57)

/-- The digits that a text begins with, so many at most. -/
def dgs : Nat → Bs → Bs
  | 0, _ => []
  | _ + 1, [] => []
  | k + 1, b :: r => if isD b then b :: dgs k r else []

/-- Their number. -/
def valD (l : Bs) : Nat := l.foldl (fun n b => 10 * n + (b.toNat - 48)) 0

/-- Four digits at most: a number up to 255 without a needless 0; how many digits it has. -/
def numR (l : Bs) : Option (Nat × Nat) :=
  if dgs 4 l = [] ∨ 255 < valD (dgs 4 l) ∨ (1 < (dgs 4 l).length ∧ l.getD 0 0 = 48) then none else some (valD (dgs 4 l), (dgs 4 l).length)

theorem dgs_drop {k : Nat} {l : Bs} (h : ∀ b r, l = b :: r → isD b = false) : dgs k l = [] := by
  cases k with
  | zero => cases l <;> rfl
  | succ k =>
    cases l with
    | nil => rfl
    | cons b r => simp [dgs, h b r rfl]

theorem valD_snoc (d : Bs) (b : UInt8) : valD (d ++ [b]) = 10 * valD d + (b.toNat - 48) := by
  unfold valD
  rw [List.foldl_append]
  rfl

theorem drop_at (l : Bs) (i : Nat) (h : i < l.length) : l.drop i = l.getD i 0 :: l.drop (i + 1) := by
  rw [List.drop_eq_getElem_cons h, List.getD_eq_getElem?_getD, List.getElem?_eq_getElem h]
  rfl

/-- How far the loop has come: d is what it has taken. -/
structure Dg (l : Bs) (at' k n : Nat) (d : Bs) : Prop where
  len : d.length = k
  val : valD d = n
  rest : dgs 4 (l.drop at') = d ++ dgs (4 - k) (l.drop (at' + k))
  lim : (k = 0 ∧ n < 1) ∨ (k = 1 ∧ n < 10) ∨ (k = 2 ∧ n < 100) ∨ (k = 3 ∧ n < 1000) ∨ (k = 4 ∧ n < 10000)

theorem Dg.start (l : Bs) (at' : Nat) : Dg l at' 0 0 [] := ⟨rfl, rfl, by simp, by omega⟩

theorem Dg.step {l : Bs} {at' k n : Nat} {d : Bs} (h : Dg l at' k n d) (hk : k < 4) (hl : at' + k < l.length) (hd : isD (l.getD (at' + k) 0) = true) : Dg l at' (k + 1) (10 * n + ((l.getD (at' + k) 0).toNat - 48)) (d ++ [l.getD (at' + k) 0]) := by
  refine ⟨by simp [h.len], by rw [valD_snoc, h.val], ?_, ?_⟩
  · rw [h.rest, drop_at l (at' + k) hl, show 4 - k = (4 - (k + 1)) + 1 by omega, dgs, if_pos hd]
    simp [Nat.add_assoc]
  · have := h.lim
    unfold isD at hd
    simp only [Bool.and_eq_true, decide_eq_true_eq] at hd
    omega

theorem Dg.stop {l : Bs} {at' k n : Nat} {d : Bs} (h : Dg l at' k n d) (hs : k = 4 ∨ l.length ≤ at' + k ∨ isD (l.getD (at' + k) 0) = false) : dgs 4 (l.drop at') = d := by
  rw [h.rest]
  have : dgs (4 - k) (l.drop (at' + k)) = [] := by
    rcases hs with rfl | hs | hs
    · cases l.drop (at' + 4) <;> rfl
    · rw [List.drop_of_length_le hs]; cases 4 - k <;> rfl
    · by_cases hl : at' + k < l.length
      · rw [drop_at l _ hl]
        exact dgs_drop (fun b r e => by rw [← (List.cons.inj e).1]; exact hs)
      · rw [List.drop_of_length_le (by omega)]; cases 4 - k <;> rfl
  rw [this, List.append_nil]

/-- What number answers. -/
def numV (l : Bs) (at' : Nat) : Value := match numR (l.drop at') with
  | none => .tuple #[.int .i64 0, .int .i64 (at' : Int), .bool false]
  | some (n, k) => .tuple #[.int .i64 (n : Int), .int .i64 ((at' + k : Nat) : Int), .bool true]

/-- At the loop's end. -/
theorem Dg.ends {l : Bs} {at' k n : Nat} {d : Bs} (h : Dg l at' k n d) (hs : dgs 4 (l.drop at') = d) : numV l at' = if k = 0 ∨ 255 < n ∨ (1 < k ∧ l.getD at' 0 = 48) then .tuple #[.int .i64 0, .int .i64 (at' : Int), .bool false] else .tuple #[.int .i64 (n : Int), .int .i64 ((at' + k : Nat) : Int), .bool true] := by
  have e0 : (l.drop at').getD 0 0 = l.getD at' 0 := by
    rw [List.getD_eq_getElem?_getD, List.getElem?_drop, Nat.add_zero, ← List.getD_eq_getElem?_getD]
  have e1 : (d = [] ∨ 255 < n ∨ (1 < k ∧ l.getD at' 0 = 48)) ↔ (k = 0 ∨ 255 < n ∨ (1 < k ∧ l.getD at' 0 = 48)) := by
    rw [← List.length_eq_zero_iff, h.len]
  unfold numV numR
  rw [hs, h.val, h.len, e0]
  by_cases hc : d = [] ∨ 255 < n ∨ (1 < k ∧ l.getD at' 0 = 48)
  · rw [if_pos hc, if_pos (e1.1 hc)]
  · rw [if_neg hc, if_neg (fun h => hc (e1.2 h))]

end Go.Proofs.YtapnaknbidmnmaaDoor

/- What Address of the document's layer 6 answers. -/
namespace Go.Proofs.YtapnaknbidmnmaaDoor
open Go.RowKit
set_option maxRecDepth 8000

theorem dgs_len : ∀ (k : Nat) (l : Bs), (dgs k l).length ≤ l.length
  | 0, l => by cases l <;> simp [dgs]
  | k + 1, [] => by simp [dgs]
  | k + 1, b :: r => by
    rw [dgs]
    split
    · simp [dgs_len k r]
    · simp

theorem numR_some {l : Bs} {n m : Nat} (h : numR l = some (n, m)) : n ≤ 255 ∧ m ≤ l.length := by
  unfold numR at h
  split at h
  · simp at h
  · rename_i hc
    simp only [Option.some.injEq, Prod.mk.injEq] at h
    have := dgs_len 4 l
    omega

/-- Behind the dot that parts two numbers. -/
def dotR (l : Bs) (k at' : Nat) : Option Nat := if k = 0 then some at' else if at' < l.length ∧ l.getD at' 0 = 46 then some (at' + 1) else none

/-- So many numbers of an address, and the place behind them. -/
def adr (l : Bs) : Nat → Option (Nat × Nat)
  | 0 => some (0, 0)
  | k + 1 => match adr l k with
    | none => none
    | some (all, at') => match dotR l k at' with
      | none => none
      | some a => match numR (l.drop a) with
        | none => none
        | some (n, m) => some (all * 256 + n, a + m)

theorem adr_none {l : Bs} : ∀ {k j : Nat}, adr l k = none → adr l (k + j) = none
  | k, 0, h => h
  | k, j + 1, h => by
    rw [← Nat.add_assoc, adr, adr_none (j := j) h]

theorem adr_dot {l : Bs} {k all at' : Nat} (h : adr l k = some (all, at')) (hd : dotR l k at' = none) : adr l (k + 1) = none := by
  rw [adr, h]; simp only [hd]

theorem adr_num {l : Bs} {k all at' a : Nat} (h : adr l k = some (all, at')) (hd : dotR l k at' = some a) : adr l (k + 1) = (numR (l.drop a)).map fun x => (all * 256 + x.1, a + x.2) := by
  rw [adr, h]; simp only [hd]
  cases numR (l.drop a) with
  | none => rfl
  | some x => rfl

/-- What Address answers. -/
def addrV (l : Bs) : Value := match adr l 4 with
  | none => .tuple #[.int .i64 0, .int .i64 0, .bool false]
  | some (all, at') => .tuple #[.int .i64 (all : Int), .int .i64 (at' : Int), .bool true]

theorem addrV_none {l : Bs} {k : Nat} (hk : k < 4) (h : adr l (k + 1) = none) : addrV l = .tuple #[.int .i64 0, .int .i64 0, .bool false] := by
  have := adr_none (j := 3 - k) h
  rw [show k + 1 + (3 - k) = 4 by omega] at this
  unfold addrV
  rw [this]

def limA (k all : Nat) : Prop := (k = 0 ∧ all = 0) ∨ (k = 1 ∧ all < 256) ∨ (k = 2 ∧ all < 65536) ∨ (k = 3 ∧ all < 16777216) ∨ (k = 4 ∧ all < 4294967296)

end Go.Proofs.YtapnaknbidmnmaaDoor

/- What Range and name of the document's layer 6 answer. -/
namespace Go.Proofs.YtapnaknbidmnmaaDoor
open Go.RowKit
set_option maxRecDepth 8000

theorem adr_le {l : Bs} : ∀ {k all p : Nat}, adr l k = some (all, p) → p ≤ l.length
  | 0, all, p, h => by simp [adr] at h; omega
  | k + 1, all, p, h => by
    cases hk : adr l k with
    | none => rw [adr, hk] at h; simp at h
    | some x =>
      obtain ⟨a0, p0⟩ := x
      have h0 := adr_le hk
      cases hd : dotR l k p0 with
      | none => rw [adr_dot hk hd] at h; simp at h
      | some a =>
        rw [adr_num hk hd] at h
        have ha : a ≤ l.length := by
          unfold dotR at hd
          split at hd
          · simp at hd; omega
          · split at hd
            · simp at hd; omega
            · simp at hd
        cases hn : numR (l.drop a) with
        | none => rw [hn] at h; simp at h
        | some y =>
          obtain ⟨n, m⟩ := y
          rw [hn] at h
          have := numR_some hn
          rw [List.length_drop] at this
          simp at h
          omega

/-- An address or a range: its bits, and how many count. -/
def rngR (l : Bs) : Option (Nat × Nat) := match adr l 4 with
  | none => none
  | some (a, p) => if p = l.length then some (a, 32) else if l.getD p 0 = 47 then match numR (l.drop (p + 1)) with
    | none => none
    | some (n, m) => if p + 1 + m = l.length ∧ n ≤ 32 then some (a, n) else none
    else none

def rngV (l : Bs) : Value := match rngR l with
  | none => .tuple #[.int .i64 0, .int .i64 0, .bool false]
  | some (a, n) => .tuple #[.int .i64 (a : Int), .int .i64 (n : Int), .bool true]

end Go.Proofs.YtapnaknbidmnmaaDoor
