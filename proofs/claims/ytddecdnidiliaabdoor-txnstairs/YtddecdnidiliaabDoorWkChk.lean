/- What txn.Check and txn.Write answer of the transaction that the statements' own first look makes. -/
import Derived.Test.YtddecdnidiliaabDoorChk3
import Derived.Test.YtddecdnidiliaabDoorWriteOk
import Derived.Test.YtddecdnidiliaabDoorPutDel
namespace Go.Proofs.YtddecdnidiliaabDoor
open Go.RowKit
set_option maxRecDepth 8000

def pathW : ByteArray := ⟨#[47, 97]⟩
abbrev rqW : Array Value := #[.int .i8 2, .string pathW, .slice none 0 0, .slice none 0 0, .int .i32 (-1), .bool false, .bool false, .int .i64 0, .int .i32 0, .slice none 0 0, .slice none 0 0]
abbrev txW : Array Value := #[.int .u32 1, .int .u32 2, .int .i8 3, .int .u32 4, .int .i64 5, .int .i8 2, .string pathW, .slice none 0 0, .slice none 0 0, .int .i32 (-1), .bool false, .bool false, .int .i64 0, .int .i32 0, .slice none 0 0, .slice none 0 0]

theorem pathW_list : pathW.toList = [47, 97] := by simp [pathW]
theorem fillW : fillz (!pathW.toList.isEmpty) (decide (0 < 0)) (decide (0 < 0)) ((-1 : Int) != 0) false false ((0 : Int) != 0) ((0 : Int) != 0) (decide (0 < 0)) (decide (0 < 0)) = 9 := by
  rw [pathW_list]; decide

theorem bounded_works (W : World) : Calls Tryd.prog 80 #[.agg rqW] W fun r w' => r = .returned (.bool true) ∧ Below W.heap.size W w' := by
  have h := isBounded_true ⟨2, pathW, [], [], -1, false, false, 0, 0, []⟩ 0 (fun i => i.elim0) (.slice none 0 0) (.slice none 0 0) (.slice none 0 0) (.slice none 0 0) (fun i => i.elim0) (fun i => i.elim0) W
    ⟨none, 0, rfl, Nat.le_refl _, by unfold maxLen; omega, fun _ => rfl, .inl rfl⟩ (SeesR.nil W 3) (SeesR.nil W 2) (SeesR.nil W 11) (fun i => i.elim0) (by omega) (fun i => i.elim0) (by decide) (by decide) (by decide) (by decide) (by decide) (by decide) (by decide)
  exact h

theorem mayBe_works (W : World) (hn : Nam W) : Calls Tryd.prog 50 #[lay 8 0, .agg rqW] W fun r w' => r = .returned (.bool true) ∧ Below W.heap.size W w' := by
  have h := mayBe_bits 8 0 2 pathW none none none none 0 0 0 0 0 0 0 0 (-1) false false 0 0 329 9 true W hn (by omega) nms_del fillW (fun V _ => bounded_works V)
  have e : ((329 : Int) != 0 && (bits .andNot .u16 9 329 == 0) && (bits .andNot .u16 (need 2) 9 == 0) && true) = true := by decide
  rw [e] at h
  exact h

theorem check_works (W : World) (hn : Nam W) : Calls Tryd.prog 22 #[.agg txW] W fun r w' => r = .returned (.int .i64 0) ∧ Below W.heap.size W w' :=
  check_ok 1 2 3 4 5 2 pathW none none none none 0 0 0 0 0 0 0 0 (-1) false false 0 0 true W (by omega) (by omega) (by decide) (by decide) (fun V hV => mayBe_works V (hn.below hV hn.lt))

/-- The bytes of that transaction. -/
def wkAll : List Int := [0, 0, 0, 1, 0, 0, 0, 2, 3, 0, 0, 0, 4, 0, 0, 0, 0, 0, 0, 0, 5, 2, 0, 0, 0, 2, 47, 97, 255, 255, 255, 255, 0, 0, 0, 0, 0, 0, 0, 0, 0, 0, 0, 0]

theorem txt_pathW : txt pathW = [47, 97] := by rfl
theorem wkAll_eq : headB 1 2 3 4 5 ++ delB pathW (-1) 0 = wkAll := by
  simp [headB, delB, txtB, txt_pathW, be4, be8, up32, up64, wkAll]

theorem write_works (W : World) (hn : Nam W) : Calls Tryd.prog 8 #[.agg txW] W fun r w' => ∃ v, r = .returned (.tuple #[v, .int .i64 0]) ∧ Owns w' W.heap.size v wkAll ∧ Below W.heap.size W w' := by
  rw [← wkAll_eq]
  exact write_ok 1 2 3 4 5 2 pathW none none none none 0 0 0 0 0 0 0 0 (-1) false false 0 0 (delB pathW (-1) 0) W (by omega) (by omega) (by omega) (by omega) (by omega) (by omega) (by decide)
    (fun V hV => check_works V (hn.below hV hn.lt))
    (fun V g v xs hV hW hx hg hv => put_del g v xs pathW (-1) 0 V hW (by decide) hx (hn.below hV hn.lt) (by have := hn.lt; omega) (fun k hk => by have := hv k hk; have := hn.lt; omega))
end Go.Proofs.YtddecdnidiliaabDoor
