/- The two packets of the statements' first look, as data. -/
import Derived.Test.YtgjjcmhlmdfccaaGreatDoorLnHJ
import Derived.Test.YtgjjcmhlmdfccaaGreatDoorLnKJ
import Derived.Test.YtgjjcmhlmdfccaaGreatDoorWorks4J
namespace Go.Proofs.YtgjjcmhlmdfccaaGreatDoor
open Go.RowKit
set_option maxRecDepth 8000
set_option linter.unusedSimpArgs false
set_option linter.unusedVariables false

def rqF1 : Rq := .mk ⟨7, ⟨#[]⟩, [], [], 0, false, false, 0, 5, []⟩ 0 (fun i => i.elim0)
/-- The transaction (1, 1). -/
def txF1 : TxD := ⟨1, 1, 0, 0, 0, rqF1⟩

theorem sees_f1 (w : World) : SeesTx w fiC.toList txF1 :=
  ⟨[.int .i8 7, .string ⟨#[]⟩, .slice none 0 0, .slice none 0 0, .int .i32 0, .bool false, .bool false, .int .i64 0, .int .i32 5, .slice none 0 0, .slice none 0 0], rfl, .mk ⟨7, ⟨#[]⟩, [], [], 0, false, false, 0, 5, []⟩ 0 (fun i => i.elim0) _ _ _ _ (fun i => i.elim0) ⟨none, 0, rfl, Nat.le_refl _, by unfold maxLen; omega, fun _ => rfl, .inl rfl⟩ (SeesR.nil w 3) (SeesR.nil w 2) (SeesR.nil w 11) (fun i => i.elim0)⟩

def pk5 : PkD := ⟨5, 1, 1, 1, 1, 0, 0, 0, 0, 0, 0, 0, false, false, txF1, [], 0⟩
def pk7 : PkD := ⟨7, 1, 1, 1, 1, 0, 1, 0, 1, 1, 0, 0, false, false, txN, [], 0⟩

theorem flat_good (k t : Int) (hk : -128 ≤ k ∧ k ≤ 127) (ht : -2147483648 ≤ t ∧ t ≤ 2147483647) : (Rq.mk ⟨k, ⟨#[]⟩, [], [], 0, false, false, 0, t, []⟩ 0 (fun i => i.elim0)).good := by
  refine ⟨?_, by omega, fun i => i.elim0⟩
  constructor <;> first | (simp; omega) | (intro x hx; simp at hx) | (simp; done) | (show (0 : Nat) ≤ 140737488355328; omega)

theorem f1_good : txF1.good := ⟨by decide, by decide, by decide, by decide, by decide, by decide, by decide, by decide, by decide, by decide, flat_good 7 5 (by omega) (by omega)⟩
theorem n_good : txN.good := ⟨by decide, by decide, by decide, by decide, by decide, by decide, by decide, by decide, by decide, by decide, flat_good 0 0 (by omega) (by omega)⟩

theorem pk5_good : pk5.good := by
  constructor <;> first | exact f1_good | decide
theorem pk7_good : pk7.good := by
  constructor <;> first | exact n_good | decide

theorem pk5_ok : chkP pk5 false = true := by decide +kernel
theorem pk7_ok : chkP pk7 true = true := by decide +kernel
theorem pk5_ne : ((false : Bool) = true ↔ pk5.tx = txN) := by
  constructor
  · intro h; cases h
  · intro h
    have : (txF1.ep : Int) = txN.ep := by rw [show txF1 = pk5.tx from rfl, h]
    cases this
theorem sees_5 (w : World) : SeesPk w fiC.toList (.slice none 0 0) pk5 := ⟨sees_f1 w, ⟨none, 0, rfl, Nat.le_refl _, by unfold maxLen; omega, fun _ => rfl, .inl rfl⟩, fun x hx => by cases hx⟩
theorem sees_7 (w : World) : SeesPk w txZL.toList (.slice none 0 0) pk7 := ⟨⟨_, rfl, sees_rqN w⟩, ⟨none, 0, rfl, Nat.le_refl _, by unfold maxLen; omega, fun _ => rfl, .inl rfl⟩, fun x hx => by cases hx⟩
theorem pk7_ne : ((true : Bool) = true ↔ pk7.tx = txN) := ⟨fun _ => rfl, fun _ => rfl⟩
end Go.Proofs.YtgjjcmhlmdfccaaGreatDoor
