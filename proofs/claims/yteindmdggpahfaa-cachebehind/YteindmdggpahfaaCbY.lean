/- A cache of transactions is built out of a ring. -/
import Derived.Test.YteindmdggpahfaaCbZ
import Derived.Laws.Tables
namespace Go.Proofs.Yteindmdggpahfaa
open Go.RowKit
set_option maxRecDepth 8000

theorem fold_set (off : Nat) : ∀ (xs : List Value) (n : Nat) (cells : Array Value), off + n + xs.length ≤ cells.size →
    ((xs.zipIdx n).foldl (fun (cs : Array Value) (p : Value × Nat) => cs.setIfInBounds (off + p.2) p.1) cells).size = cells.size ∧
    ∀ k, ((xs.zipIdx n).foldl (fun (cs : Array Value) (p : Value × Nat) => cs.setIfInBounds (off + p.2) p.1) cells)[k]? = if off + n ≤ k ∧ k < off + n + xs.length then xs[k - (off + n)]? else cells[k]?
  | [], n, cells, _ => ⟨rfl, fun k => by rw [if_neg (by simp)]; rfl⟩
  | x :: xs, n, cells, h => by
    simp only [List.length_cons] at h
    rw [List.zipIdx_cons, List.foldl_cons]
    obtain ⟨h1, h2⟩ := fold_set off xs (n + 1) (cells.setIfInBounds (off + n) x) (by rw [Array.size_setIfInBounds]; omega)
    refine ⟨by rw [h1, Array.size_setIfInBounds], fun k => ?_⟩
    rw [h2 k]
    by_cases e : k = off + n
    · subst e
      rw [if_neg (by omega), if_pos (by simp), Array.getElem?_setIfInBounds, if_pos rfl, if_pos (by omega)]
      simp
    · by_cases e2 : off + n + 1 ≤ k ∧ k < off + n + 1 + xs.length
      · rw [if_pos (by omega), if_pos (by simp only [List.length_cons]; omega), show k - (off + n) = (k - (off + (n + 1))) + 1 by omega, List.getElem?_cons_succ]
      · rw [if_neg (by omega), if_neg (by simp only [List.length_cons]; omega), Array.getElem?_setIfInBounds, if_neg (by omega)]

theorem fill_one {place : Nat → Option (Nat × Nat)} {cells : Array Value} {i : Nat} {v : Value} {rest : List (Nat × Value)} {off size : Nat} (hp : place i = some (off, size)) (hs : v.cells.size = size) (hf : off + size ≤ cells.size) :
    Instr.fill place cells ((i, v) :: rest) = Instr.fill place ((v.cells.toList.zipIdx 0).foldl (fun (cs : Array Value) (p : Value × Nat) => cs.setIfInBounds (off + p.2) p.1) cells) rest := by
  have hz : v.cells.zipIdx = (v.cells.toList.zipIdx 0).toArray := by
    apply Array.ext'
    simp
  rw [Instr.fill]
  simp only [hp]
  rw [if_neg (by simp [hs]; omega), hz, List.foldl_toArray']
  rfl

/-- The cells of an empty cache. -/
def tsZ : List Value := (List.replicate 64 txZ).flatten ++ [Value.int .i64 0, Value.int .i64 0, Value.int .i64 0, Value.bool false]

theorem builtT (C : Array Value) (hC : C.size = 1027) : ∃ K : Array Value, Try.prog.built 66 [(0, .agg C), (1, .bool true)] = some K ∧ K.size = 1028 ∧ (∀ i, i < 1027 → K[i]? = C[i]?) ∧ K[1027]? = some (.bool true) := by
  have e1 : ∀ parts, Try.prog.built 66 parts = Instr.fill ((#[(0, 1027), (1027, 1)] : Array (Nat × Nat))[·]?) tsZ.toArray parts := fun parts => by kernel_rfl
  have z : tsZ.toArray.size = 1028 := by decide +kernel
  obtain ⟨a1, a2⟩ := fold_set 0 C.toList 0 tsZ.toArray (by simp only [Array.length_toList]; omega)
  simp only [Array.length_toList, Nat.zero_add, hC] at a1 a2
  refine ⟨((C.toList.zipIdx 0).foldl (fun (cs : Array Value) (p : Value × Nat) => cs.setIfInBounds (0 + p.2) p.1) tsZ.toArray).setIfInBounds 1027 (.bool true), ?_, ?_, fun i hi => ?_, ?_⟩
  · rw [e1]
    refine (fill_one (v := .agg C) (i := 0) (off := 0) (size := 1027) rfl hC (by rw [z]; omega)).trans ?_
    refine (fill_one (v := .bool true) (i := 1) (off := 1027) (size := 1) rfl rfl (by simp only [Nat.zero_add, Value.cells]; rw [a1, z]; omega)).trans ?_
    rfl
  · rw [Array.size_setIfInBounds]
    simp only [Nat.zero_add]
    rw [a1, z]
  · rw [Array.getElem?_setIfInBounds, if_neg (by omega)]
    simp only [Nat.zero_add]
    rw [a2, if_pos (by omega)]
    simp
  · rw [Array.getElem?_setIfInBounds, if_pos rfl, if_pos (by simp only [Nat.zero_add]; rw [a1, z]; omega)]
end Go.Proofs.Yteindmdggpahfaa
