/- What Range and name of the document's layer 6 answer. -/
import Derived.Test.YtapnaknbidmnmaaDoorQaB
namespace Go.Proofs.YtapnaknbidmnmaaDoor
open Go.RowKit
set_option maxRecDepth 8000

theorem adr_le {l : Bs} : ∀ {k all p : Nat}, adr l k = some (all, p) → p ≤ l.length
  | 0, all, p, h => by simp [adr] at h; omega
  | k + 1, all, p, h => by
    cases hk : adr l k with
    | none => rw [adr, hk] at h; simp at h
    | some x =>
      obtain ⟨a0, p0⟩ := x
      have h0 := adr_le hk
      cases hd : dotR l k p0 with
      | none => rw [adr_dot hk hd] at h; simp at h
      | some a =>
        rw [adr_num hk hd] at h
        have ha : a ≤ l.length := by
          unfold dotR at hd
          split at hd
          · simp at hd; omega
          · split at hd
            · simp at hd; omega
            · simp at hd
        cases hn : numR (l.drop a) with
        | none => rw [hn] at h; simp at h
        | some y =>
          obtain ⟨n, m⟩ := y
          rw [hn] at h
          have := numR_some hn
          rw [List.length_drop] at this
          simp at h
          omega

/-- An address or a range: its bits, and how many count. -/
def rngR (l : Bs) : Option (Nat × Nat) := match adr l 4 with
  | none => none
  | some (a, p) => if p = l.length then some (a, 32) else if l.getD p 0 = 47 then match numR (l.drop (p + 1)) with
    | none => none
    | some (n, m) => if p + 1 + m = l.length ∧ n ≤ 32 then some (a, n) else none
    else none

def rngV (l : Bs) : Value := match rngR l with
  | none => .tuple #[.int .i64 0, .int .i64 0, .bool false]
  | some (a, n) => .tuple #[.int .i64 (a : Int), .int .i64 (n : Int), .bool true]

end Go.Proofs.YtapnaknbidmnmaaDoor
