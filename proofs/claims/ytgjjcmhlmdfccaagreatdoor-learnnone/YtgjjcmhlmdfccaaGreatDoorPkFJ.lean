/- namedBy and bit of package packet; txn.Same of a transaction held against none. -/
import Derived.Test.YtgjjcmhlmdfccaaGreatDoorWfMJ
import Derived.Test.YtgjjcmhlmdfccaaGreatDoorWfNJ
import Derived.Deep.RegionHeld
namespace Go.Proofs.YtgjjcmhlmdfccaaGreatDoor
open Go.RowKit
set_option maxRecDepth 8000

def tabP : List Int := [0, 9, 15, 191, 39, 583, 1287, 47, 15, 39, 583, 39, 39, 519, 2055]
/-- The table of what each kind of packet names stands. -/
def PNam (w : World) : Prop := Lib.TabIs Tryz.prog w "lagoon/packet.named" .u16 [0, 9, 15, 191, 39, 583, 1287, 47, 15, 39, 583, 39, 39, 519, 2055]
theorem pnam_global : Tryz.prog.globalNamed "lagoon/packet.named" = some 0 := by kernel_rfl
theorem PNam.below {B : Nat} {w w' : World} (h : PNam w) (hb : Below B w w') (hB : 0 < B) : PNam w' := var?_below hb pnam_global hB h
theorem PNam.lt {w : World} (h : PNam w) : 0 < w.heap.size := by
  have := World.block_lt_of_cell? w _ (Lib.TabIs.cell h pnam_global 0 (by decide)); simpa using this

def nmP (k : Int) : Int := if k < 1 ∨ 14 < k then 0 else tabP.getD k.toNat 0

set_option maxHeartbeats 400000 in
theorem namedBy_any (k : Int) (w : World) (hn : PNam w) : Calls Tryz.prog 27 #[.int .i8 k] w fun r w' => r = .returned (.int .u16 (nmP k)) ∧ Below w.heap.size w w' := by
  by_cases hk : k < 1 ∨ 14 < k
  · have hr : nmP k = 0 := by unfold nmP; rw [if_pos hk]
    rw [hr]
    clear hr hn
    go_enter Tryz.func27, Tryz.ntmps27
    go_wp2
    all_goals first | (go_ret; exact ⟨rfl, Below.refl _ _⟩) | (exfalso; omega)
  · have hr : nmP k = tabP.getD k.toNat 0 := by unfold nmP; rw [if_neg hk]
    rw [hr]
    have hc : w.cell? ⟨0, k.toNat, none⟩ = some (.int .u16 (tabP.getD k.toNat 0)) := by
      have := Lib.TabIs.cell hn pnam_global k.toNat (by simp; omega)
      rw [this]
      rfl
    have hlt := hn.lt
    have h1 : 1 ≤ k := by omega
    have h2 : k ≤ 14 := by omega
    clear hr hk hn
    generalize tabP.getD k.toNat 0 = t at *
    have hk0 : 0 ≤ k := by omega
    have hk13 : k < 15 := by omega
    go_enter Tryz.func27, Tryz.ntmps27
    go_wp2
    go_ret
    exact ⟨rfl, Below.refl _ _⟩

theorem bitP_any (n : Int) (b : Bool) (w : World) :
    Calls Tryz.prog 38 #[.int .u16 n, .bool b] w fun r w' => r = .returned (.int .u16 (bz n b)) ∧ w' = w := by
  go_enter Tryz.func38, Tryz.ntmps38
  cases b <;> go_wp2 <;> (go_ret; exact ⟨rfl, rfl⟩)

abbrev zRq : Array Value := #[.int .i8 0, .string ⟨#[]⟩, .slice none 0 0, .slice none 0 0, .int .i32 0, .bool false, .bool false, .int .i64 0, .int .i32 0, .slice none 0 0, .slice none 0 0]
abbrev zTx : Array Value := #[.int .u32 0, .int .u32 0, .int .i8 0, .int .u32 0, .int .i64 0, .int .i8 0, .string ⟨#[]⟩, .slice none 0 0, .slice none 0 0, .int .i32 0, .bool false, .bool false, .int .i64 0, .int .i32 0, .slice none 0 0, .slice none 0 0]
def rqN : Rq := .mk ⟨0, ⟨#[]⟩, [], [], 0, false, false, 0, 0, []⟩ 0 (fun i => i.elim0)
def txN : TxD := ⟨0, 0, 0, 0, 0, rqN⟩

theorem sees_rqN (w : World) : SeesRq w zRq.toList rqN :=
  SeesRq.mk ⟨0, ⟨#[]⟩, [], [], 0, false, false, 0, 0, []⟩ 0 (fun i => i.elim0) (.slice none 0 0) (.slice none 0 0) (.slice none 0 0) (.slice none 0 0) (fun i => i.elim0) (sees_nil w) (SeesR.nil w 3) (SeesR.nil w 2) (SeesR.nil w 11) (fun i => i.elim0)
theorem sees_txN (w : World) : SeesTx w zTx.toList txN := ⟨zRq.toList, rfl, sees_rqN w⟩

theorem bytesEqual0 (v : Value) (xs : List Int) (w : World) (h : Sees w v xs) :
    Calls Tryz.prog 109 #[v, .slice none 0 0] w fun e w' => ∃ b, e = .returned (.bool b) ∧ (b = true → xs = []) ∧ w' = w := by
  have h1 := run_text w v xs h
  have h2 := run_text w (.slice none 0 0) [] (sees_nil w)
  obtain ⟨ao, cap, rfl, _⟩ := h
  go_enter Tryz.func109, Tryz.ntmps109
  go_wp2
  go_ret
  refine ⟨_, rfl, fun hb => ?_, rfl⟩
  have e := eq_of_beq hb
  rw [ByteArray.toList_eq, ByteArray.toList_eq, strOfNums_data, strOfNums_data] at e
  have := congrArg List.length e
  exact List.eq_nil_of_length_eq_zero (by simpa using this)

theorem slEqId0 (v : Value) (l : List IdD) (w : World) (h : SeesR w v 2 (l.map IdD.cells)) :
    Calls Tryz.prog 111 #[v, .slice none 0 0] w fun e w' => ∃ b, e = .returned (.bool b) ∧ (b = true → l = []) ∧ Below w.heap.size w w' := by
  cases l with
  | nil => exact (slEqId_same v (.slice none 0 0) [] w h (SeesR.nil w 2)).mono fun e w' ⟨he, hw⟩ => ⟨true, he, fun _ => rfl, below_of_drewN hw⟩
  | cons x l =>
    obtain ⟨ao, cap, rfl, _⟩ := h
    rw [List.length_map, List.length_cons]
    go_enter Tryz.func111, Tryz.ntmps111
    go_wp2
    all_goals (go_ret; exact ⟨false, rfl, fun h => (by cases h), Below.refl _ _⟩)

theorem slEqEntry0 (v : Value) (l : List EnD) (w : World) (h : SeesR w v 3 (l.map EnD.cells)) :
    Calls Tryz.prog 110 #[v, .slice none 0 0] w fun e w' => ∃ b, e = .returned (.bool b) ∧ (b = true → l = []) ∧ Below w.heap.size w w' := by
  cases l with
  | nil => exact (slEqEntry_same v (.slice none 0 0) [] w h (SeesR.nil w 3)).mono fun e w' ⟨he, hw⟩ => ⟨true, he, fun _ => rfl, below_of_drewN hw⟩
  | cons x l =>
    obtain ⟨ao, cap, rfl, _⟩ := h
    rw [List.length_map, List.length_cons]
    go_enter Tryz.func110, Tryz.ntmps110
    go_wp2
    all_goals (go_ret; exact ⟨false, rfl, fun h => (by cases h), Below.refl _ _⟩)

theorem eqFunc0 (n : Nat) (oc : Fin n → List Value) (v : Value) (w : World) (h : SeesR w v 11 (List.ofFn oc)) :
    Calls Tryz.prog 112 #[v, .slice none 0 0, .func (.func 53) #[] #[]] w fun e w' => ∃ b, e = .returned (.bool b) ∧ (b = true → n = 0) ∧ Below w.heap.size w w' := by
  cases n with
  | zero => exact (eqFuncRq_same 0 (fun i => i.elim0) oc (fun i => i.elim0) v (.slice none 0 0) w h (SeesR.nil w 11) (fun i => i.elim0) (fun i => i.elim0) (fun i => i.elim0)).mono fun e w' ⟨he, hw⟩ => ⟨true, he, fun _ => rfl, hw⟩
  | succ n =>
    obtain ⟨ao, cap, rfl, _⟩ := h
    rw [List.length_ofFn]
    go_enter Tryz.func112, Tryz.ntmps112
    go_wp2
    all_goals (go_ret; exact ⟨false, rfl, fun h => (by cases h), Below.refl _ _⟩)
end Go.Proofs.YtgjjcmhlmdfccaaGreatDoor
