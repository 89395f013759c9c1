/- What a law's walk is told of a slice of integers that came in, and what follows for slices of bytes; no Go function is walked here. -/
import Derived.Test.YtgfcpmipcpgifaaWorks
import Derived.Test.YtgfcpmipcpgifaaCopy
import Derived.ProofKit
import Derived.OpenShut
import Derived.ShutString
import Derived.ChangeOld
namespace Go.Proofs.Ytgfcpmipcpgifaa
open Go.ChangeShapes Go.WideShapes Go.ChangeAt Go.RowKit
set_option maxRecDepth 8000

theorem Try.own : ownKnob Try.prog.godebug = none := by kernel_rfl
theorem Try.laidOut : laidOutB Try.prog = true := by kernel_rfl

/-- A slice of integers that came in: it is nil; or it leads to a row of 'cap' cells, the numbers 'zs' (the first 'len' are its elements), each fitting its kind. -/
def IsRow (k : IntKind) (w : World) (a : Option Addr) (len cap : Nat) (zs : List Int) : Prop :=
  (a = none ∧ len = 0 ∧ cap = 0 ∧ zs = []) ∨
  ∃ x, a = some x ∧ len ≤ cap ∧ cap ≤ maxLen ∧ zs.length = cap ∧ (∀ i, i < zs.length → w.cell? (x.add i) = some (.int k (zs.getD i 0))) ∧ ∀ n ∈ zs, (Lit.int k n).wf = true

theorem sees_row {w : World} {a : Option Addr} {len cap : Nat} {zs : List Int} (h : IsRow .u8 w a len cap zs) : ∃ xs, xs.length = len ∧ Sees w (.slice a len cap) xs ∧ Byts xs := by
  rcases h with ⟨rfl, rfl, rfl, rfl⟩ | ⟨x, rfl, h1, h2, h3, h4, h5⟩
  · exact ⟨[], rfl, sees_nil w, fun x hx => by simp at hx⟩
  · have hl : (zs.take len).length = len := by simp; omega
    refine ⟨zs.take len, hl, ⟨some x, cap, by rw [hl], by omega, h2, fun e => by simp at e, ?_⟩, ?_⟩
    · by_cases h0 : len = 0
      · subst h0; exact .inl (by simp)
      · obtain ⟨b, off, spot⟩ := x
        have hc := h4 0 (by omega)
        have hspot : spot = none := by simpa [Addr.add] using World.cell?_spot hc
        subst hspot
        refine .inr ⟨b, off, rfl, fun i hi => ?_⟩
        have := h4 i (by omega)
        rw [addr_add] at this
        rw [this]
        have hi' : i < len := by omega
        simp [List.getD_eq_getElem?_getD, hi']
    · intro x hx
      have := h5 x (List.mem_of_mem_take hx)
      exact bounds_u8 this

theorem xor_byte (x y : Int) (h0 : 0 ≤ x) (h1 : x ≤ 255) (h2 : 0 ≤ y) (h3 : y ≤ 255) : 0 ≤ bits .xor .u8 x y ∧ bits .xor .u8 x y ≤ 255 := by
  rw [u8_xor x y (by omega) (by omega) (by omega) (by omega)]
  have : x.toNat ^^^ y.toNat < 2 ^ 8 := Nat.xor_lt_two_pow (by omega) (by omega)
  omega

theorem byts_set {xs : List Int} (h : Byts xs) (k : Nat) (x : Int) (h0 : 0 ≤ x) (h1 : x ≤ 255) : Byts (xs.set k x) := fun y hy => by
  rcases List.mem_or_eq_of_mem_set hy with hy | rfl
  · exact h y hy
  · exact ⟨h0, h1⟩

theorem byts_wide {xs : List Int} (h : Byts xs) : Byts (wide xs) := fun y hy => by
  simp only [wide, List.mem_map, List.mem_range] at hy
  obtain ⟨i, _, rfl⟩ := hy
  split
  · exact h.nth i
  · omega

end Go.Proofs.Ytgfcpmipcpgifaa
