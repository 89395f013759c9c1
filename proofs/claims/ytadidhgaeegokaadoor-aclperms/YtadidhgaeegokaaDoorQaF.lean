/- What Perms of the document's layer 6 answers. -/
import Derived.Test.YtadidhgaeegokaaDoorQaA
namespace Go.Proofs.YtadidhgaeegokaaDoor
open Go.RowKit
set_option maxRecDepth 8000

/-- The letters of permissions. -/
def permL (n : Nat) : Bs := if n = 0 then [45] else (if n / 4 % 2 = 1 then [99] else []) ++ (if n / 8 % 2 = 1 then [100] else []) ++ (if n % 2 = 1 then [114] else []) ++ (if n / 2 % 2 = 1 then [119] else []) ++ (if n / 16 % 2 = 1 then [97] else [])

def permV (p : Int) : Value := if p < 0 ∨ 31 < p then .tuple #[.string ⟨#[]⟩, .int .i64 60] else .tuple #[.string ⟨(permL p.toNat).toArray⟩, .int .i64 0]

set_option maxHeartbeats 4000000 in
theorem perms_any (p : Int) (w : World) : Calls Tryd.prog 10 #[.int .i8 p] w fun e w' => e = .returned (permV p) ∧ w' = w := by
  by_cases h0 : p < 0
  · have HX : permV p = .tuple #[.string ⟨#[]⟩, .int .i64 60] := by unfold permV; rw [if_pos (.inl h0)]
    rw [HX]
    clear HX
    go_enter Tryd.func10, Tryd.ntmps10
    go_wp2
    all_goals (go_ret2; exact ⟨rfl, rfl⟩)
  · by_cases h1 : 31 < p
    · have HX : permV p = .tuple #[.string ⟨#[]⟩, .int .i64 60] := by unfold permV; rw [if_pos (.inr h1)]
      rw [HX]
      clear HX
      go_enter Tryd.func10, Tryd.ntmps10
      go_wp2
      all_goals (go_ret2; exact ⟨rfl, rfl⟩)
    · obtain ⟨n, rfl, hn⟩ : ∃ n : Nat, p = (n : Int) ∧ n < 32 := ⟨p.toNat, by omega, by omega⟩
      clear h0 h1
      have key : n = 0 ∨ n = 1 ∨ n = 2 ∨ n = 3 ∨ n = 4 ∨ n = 5 ∨ n = 6 ∨ n = 7 ∨ n = 8 ∨ n = 9 ∨ n = 10 ∨ n = 11 ∨ n = 12 ∨ n = 13 ∨ n = 14 ∨ n = 15 ∨ n = 16 ∨ n = 17 ∨ n = 18 ∨ n = 19 ∨ n = 20 ∨ n = 21 ∨ n = 22 ∨ n = 23 ∨ n = 24 ∨ n = 25 ∨ n = 26 ∨ n = 27 ∨ n = 28 ∨ n = 29 ∨ n = 30 ∨ n = 31 := by omega
      clear hn
      rcases key with rfl | rfl | rfl | rfl | rfl | rfl | rfl | rfl | rfl | rfl | rfl | rfl | rfl | rfl | rfl | rfl | rfl | rfl | rfl | rfl | rfl | rfl | rfl | rfl | rfl | rfl | rfl | rfl | rfl | rfl | rfl | rfl
      · go_enter Tryd.func10, Tryd.ntmps10
        go_wp2
        all_goals (go_ret2; exact ⟨rfl, rfl⟩)
      · go_enter Tryd.func10, Tryd.ntmps10
        go_wp2
        all_goals (go_ret2; exact ⟨rfl, rfl⟩)
      · go_enter Tryd.func10, Tryd.ntmps10
        go_wp2
        all_goals (go_ret2; exact ⟨rfl, rfl⟩)
      · go_enter Tryd.func10, Tryd.ntmps10
        go_wp2
        all_goals (go_ret2; exact ⟨rfl, rfl⟩)
      · go_enter Tryd.func10, Tryd.ntmps10
        go_wp2
        all_goals (go_ret2; exact ⟨rfl, rfl⟩)
      · go_enter Tryd.func10, Tryd.ntmps10
        go_wp2
        all_goals (go_ret2; exact ⟨rfl, rfl⟩)
      · go_enter Tryd.func10, Tryd.ntmps10
        go_wp2
        all_goals (go_ret2; exact ⟨rfl, rfl⟩)
      · go_enter Tryd.func10, Tryd.ntmps10
        go_wp2
        all_goals (go_ret2; exact ⟨rfl, rfl⟩)
      · go_enter Tryd.func10, Tryd.ntmps10
        go_wp2
        all_goals (go_ret2; exact ⟨rfl, rfl⟩)
      · go_enter Tryd.func10, Tryd.ntmps10
        go_wp2
        all_goals (go_ret2; exact ⟨rfl, rfl⟩)
      · go_enter Tryd.func10, Tryd.ntmps10
        go_wp2
        all_goals (go_ret2; exact ⟨rfl, rfl⟩)
      · go_enter Tryd.func10, Tryd.ntmps10
        go_wp2
        all_goals (go_ret2; exact ⟨rfl, rfl⟩)
      · go_enter Tryd.func10, Tryd.ntmps10
        go_wp2
        all_goals (go_ret2; exact ⟨rfl, rfl⟩)
      · go_enter Tryd.func10, Tryd.ntmps10
        go_wp2
        all_goals (go_ret2; exact ⟨rfl, rfl⟩)
      · go_enter Tryd.func10, Tryd.ntmps10
        go_wp2
        all_goals (go_ret2; exact ⟨rfl, rfl⟩)
      · go_enter Tryd.func10, Tryd.ntmps10
        go_wp2
        all_goals (go_ret2; exact ⟨rfl, rfl⟩)
      · go_enter Tryd.func10, Tryd.ntmps10
        go_wp2
        all_goals (go_ret2; exact ⟨rfl, rfl⟩)
      · go_enter Tryd.func10, Tryd.ntmps10
        go_wp2
        all_goals (go_ret2; exact ⟨rfl, rfl⟩)
      · go_enter Tryd.func10, Tryd.ntmps10
        go_wp2
        all_goals (go_ret2; exact ⟨rfl, rfl⟩)
      · go_enter Tryd.func10, Tryd.ntmps10
        go_wp2
        all_goals (go_ret2; exact ⟨rfl, rfl⟩)
      · go_enter Tryd.func10, Tryd.ntmps10
        go_wp2
        all_goals (go_ret2; exact ⟨rfl, rfl⟩)
      · go_enter Tryd.func10, Tryd.ntmps10
        go_wp2
        all_goals (go_ret2; exact ⟨rfl, rfl⟩)
      · go_enter Tryd.func10, Tryd.ntmps10
        go_wp2
        all_goals (go_ret2; exact ⟨rfl, rfl⟩)
      · go_enter Tryd.func10, Tryd.ntmps10
        go_wp2
        all_goals (go_ret2; exact ⟨rfl, rfl⟩)
      · go_enter Tryd.func10, Tryd.ntmps10
        go_wp2
        all_goals (go_ret2; exact ⟨rfl, rfl⟩)
      · go_enter Tryd.func10, Tryd.ntmps10
        go_wp2
        all_goals (go_ret2; exact ⟨rfl, rfl⟩)
      · go_enter Tryd.func10, Tryd.ntmps10
        go_wp2
        all_goals (go_ret2; exact ⟨rfl, rfl⟩)
      · go_enter Tryd.func10, Tryd.ntmps10
        go_wp2
        all_goals (go_ret2; exact ⟨rfl, rfl⟩)
      · go_enter Tryd.func10, Tryd.ntmps10
        go_wp2
        all_goals (go_ret2; exact ⟨rfl, rfl⟩)
      · go_enter Tryd.func10, Tryd.ntmps10
        go_wp2
        all_goals (go_ret2; exact ⟨rfl, rfl⟩)
      · go_enter Tryd.func10, Tryd.ntmps10
        go_wp2
        all_goals (go_ret2; exact ⟨rfl, rfl⟩)
      · go_enter Tryd.func10, Tryd.ntmps10
        go_wp2
        all_goals (go_ret2; exact ⟨rfl, rfl⟩)

end Go.Proofs.YtadidhgaeegokaaDoor
