/- rowsOf of package packet: the rows of the fields that are named. -/
import Derived.Test.YtgjjcmhlmdfccaaGreatDoorPkCJ
import Derived.Deep.Onto
import Derived.Test.YtgjjcmhlmdfccaaGreatDoorProg
import Derived.Test.YtgjjcmhlmdfccaaGreatDoorStorJ
import Derived.Lib.SliceRun
import Derived.WalkKit
import Derived.Laws.FloatArith
import Derived.Laws.Externs
import Derived.WalkLawsBesides
import Derived.Laws.BytesArg
import Derived.Test.YtgjjcmhlmdfccaaGreatDoorEqRJ
namespace Go.Proofs.YtgjjcmhlmdfccaaGreatDoor
open Go.RowKit
set_option maxRecDepth 8000

theorem store_fn15 (P : Program) (w : World) (a : Addr) (m : Mode) (f : Fn) (x y : Array Value) : (store a (.func f x y) m).run P w = stored P w a (.func f x y) m := run_store P w a _ m rfl

def RowsA (W : World) (b : Nat) : Prop := W.heap[b]? = some (.cells (rowsF (List.range 12)).toArray 85 (0, 0))

set_option maxHeartbeats 2000000 in
theorem rowsOf_any (names : Int) (w : World) : Calls Tryz.prog 29 #[.int .u16 names] w fun r w' => ∃ v, r = .returned v ∧ w'.ownsRow w.heap.size 85 4 v (flN names 12).length (rowsF (flN names 12)) ∧ Below w.heap.size w w' := by
  go_enter Tryz.func29, Tryz.ntmps29
  go_wp2_with fail
  refine (rows_any _).mono ?_
  rintro _ w1 ⟨rfl, hr, hb⟩
  have H1 : Hid (Below w.heap.size w w1 ∧ RowsA w1 w.heap.size) := ⟨hb, hr⟩
  clear hr hb
  go_wp2_with fail
  go_loopw [3, 8] (fun v i wr => ∃ k : Nat, k ≤ 12 ∧ i = .int .i64 k ∧ Hid (wr.ownsRow (w.heap.size + 1) 85 4 v (flN names k).length (rowsF (flN names k)) ∧ Below w.heap.size w wr ∧ RowsA wr w.heap.size)) (fun _ i _ => 12 - (intOf i).toNat)
  case atStart => exact ⟨0, Nat.zero_le _, rfl, World.ownsRow_nil _ _ _ _, H1.out.1, H1.out.2⟩
  case round =>
    clear H1
    obtain ⟨k, hk, rfl, H⟩ := hrel
    by_cases hlt : k < 12
    · have hsz := lt_of_block H.out.2.2
      have c0 : wr.cell? ⟨w.heap.size, k * 4, none⟩ = some (.int .u16 (pw k)) := by rw [cell_of_row _ _ _ _ _ _ H.out.2.2, List.getElem?_toArray, show k * 4 = k * 4 + 0 from rfl, rowsF_at _ k (by simpa using hlt) 0 (by omega)]; simp [rowC]
      have c1 : wr.cell? ⟨w.heap.size, k * 4 + 1, none⟩ = some (fv (fRt k)) := by rw [cell_of_row _ _ _ _ _ _ H.out.2.2, List.getElem?_toArray, rowsF_at _ k (by simpa using hlt) 1 (by omega)]; simp [rowC]
      have c2 : wr.cell? ⟨w.heap.size, k * 4 + 2, none⟩ = some (fv (fPt k)) := by rw [cell_of_row _ _ _ _ _ _ H.out.2.2, List.getElem?_toArray, rowsF_at _ k (by simpa using hlt) 2 (by omega)]; simp [rowC]
      have c3 : wr.cell? ⟨w.heap.size, k * 4 + 3, none⟩ = some (fv (fGt k)) := by rw [cell_of_row _ _ _ _ _ _ H.out.2.2, List.getElem?_toArray, rowsF_at _ k (by simpa using hlt) 3 (by omega)]; simp [rowC]
      have hsf := store_fn15
      obtain ⟨V, HV⟩ : ∃ V, Hid (V = wr.alloc (.cells #[.int .u16 (pw k), .func (.func (fRt k)) #[] #[], .func (.func (fPt k)) #[] #[], .func (.func (fGt k)) #[] #[]] 85)) := ⟨_, rfl⟩
      have HVV : Hid (Below w.heap.size w V ∧ RowsA V w.heap.size ∧ V.ownsRow (w.heap.size + 1) 85 4 u3 (flN names k).length (rowsF (flN names k)) ∧ V.heap[wr.heap.size]? = some (.cells (rowC k).toArray 85 (0, 0))) := by
        rw [HV.out]
        exact ⟨H.out.2.1.alloc H.out.2.1.size _, (Below.kept (one_alloc wr _)).heap H.out.2.2 (by omega), ownsRow_kept H.out.1 ((Kept.refl wr (fun _ => False)).alloc _) (fun _ _ h => h), heap_alloc_new _ _⟩
      go_upto_region 5 with fail
      rw [← HV.out]
      clear HV c0 c1 c2 c3 H hsf
      have d0 : V.cell? ⟨wr.heap.size, 0, none⟩ = some (.int .u16 (pw k)) := pk_at HVV.out.2.2.2 rfl
      have d1 : V.cell? ⟨wr.heap.size, 1, none⟩ = some (fv (fRt k)) := pk_at HVV.out.2.2.2 rfl
      have d2 : V.cell? ⟨wr.heap.size, 2, none⟩ = some (fv (fPt k)) := pk_at HVV.out.2.2.2 rfl
      have d3 : V.cell? ⟨wr.heap.size, 3, none⟩ = some (fv (fGt k)) := pk_at HVV.out.2.2.2 rfl
      cases hb : (bits .and .u16 names (pw k) != 0) with
      | true =>
        have hvs := lt_of_block HVV.out.2.1
        obtain ⟨v', w', hrun, hown, hgr⟩ := app_row15 (w := V.alloc (.cells #[.int .u16 (pw k), .func (.func (fRt k)) #[] #[], .func (.func (fPt k)) #[] #[], .func (.func (fGt k)) #[] #[]] 85)) (m := V.heap.size) (j := k) 80 (ownsRow_kept HVV.out.2.2.1 ((Kept.refl V (fun _ => False)).alloc _) (fun _ _ h => h)) (heap_alloc_new _ _) (by have := flN_len names k; omega) (by simp; omega)
        have HN : Hid (w'.ownsRow (w.heap.size + 1) 85 4 v' (flN names (k + 1)).length (rowsF (flN names (k + 1))) ∧ Below w.heap.size w w' ∧ RowsA w' w.heap.size) := by
          rw [show flN names (k + 1) = flN names k ++ [k] from by rw [flN_next, if_pos hb]]
          exact ⟨hown, (HVV.out.1.alloc HVV.out.1.size _).grown hgr (by simp; omega) (fun q hq => by have := (HVV.out.2.2.1.lt q hq).1; omega), ((Kept.refl V (fun q => q = w.heap.size + 1 ∨ w.heap.size < q)).alloc _ |>.grown hgr (fun q _ hq => .inr (by have := (HVV.out.2.2.1.lt q hq).1; omega))).heap HVV.out.2.1 (by omega)⟩
        clear hown hgr HVV
        go_wp2_with (at_builtin; refine app_at rfl _ _ 80 rfl u3 (.slice (some ⟨V.heap.size, 0, none⟩) 1 1) rfl rfl hrun ?_)
        clear hrun d0 d1 d2 d3
        go_wp2_with fail
        go_roundw
        case rel => exact ⟨k + 1, by omega, by go_num, HN⟩
        case measure => simp [intOf]; omega
      | false =>
        have HN : Hid (V.ownsRow (w.heap.size + 1) 85 4 u3 (flN names (k + 1)).length (rowsF (flN names (k + 1))) ∧ Below w.heap.size w V ∧ RowsA V w.heap.size) := by
          rw [show flN names (k + 1) = flN names k from by rw [flN_next, if_neg (by rw [hb]; decide)]]
          exact ⟨HVV.out.2.2.1, HVV.out.1, HVV.out.2.1⟩
        clear HVV
        go_wp2_with fail
        go_roundw
        case rel => exact ⟨k + 1, by omega, by go_num, HN⟩
        case measure => simp [intOf]; omega
    · obtain rfl : k = 12 := by omega
      go_wp2_with fail
      go_ret
      exact ⟨_, rfl, World.ownsRow.mono H.out.1 (by omega), H.out.2.1⟩

end Go.Proofs.YtgjjcmhlmdfccaaGreatDoor

/- What the Writer's calls of package pack do: each puts the bytes of its value behind those that the Writer has. -/
namespace Go.Proofs.YtgjjcmhlmdfccaaGreatDoor
open Go.RowKit
set_option maxRecDepth 8000

end Go.Proofs.YtgjjcmhlmdfccaaGreatDoor

/- What the Reader's calls of package pack do: what is answered, what is left, and the fault. -/
namespace Go.Proofs.YtgjjcmhlmdfccaaGreatDoor
open Go.RowKit
set_option maxRecDepth 8000

section
variable {w : World} {g : Nat} {v : Value} {xs : List Int} {f : Int}
end

theorem sees_nil (w : World) : Sees w (.slice none 0 0) [] := ⟨none, 0, rfl, Nat.le_refl _, by unfold maxLen; omega, fun _ => rfl, .inl rfl⟩

end Go.Proofs.YtgjjcmhlmdfccaaGreatDoor

/- What the Reader's size does: it looks at a length, or at a count, and stays ahead of it; the fault where it may not be. -/
namespace Go.Proofs.YtgjjcmhlmdfccaaGreatDoor
open Go.RowKit
set_option maxRecDepth 8000

section
variable (g : Nat) (v : Value) (xs : List Int) (most : Int) (w : World)

end

end Go.Proofs.YtgjjcmhlmdfccaaGreatDoor

/- Plain facts on IEEE 754 doubles as words: what a word with sign, exponent and fraction stands for, and that doubling, halving, comparing and taking 1 away are exact where the document's own Bits does them; no Go function is walked here. -/
namespace Go.Proofs.YtgjjcmhlmdfccaaGreatDoor
open Ieee
set_option maxRecDepth 8000

end Go.Proofs.YtgjjcmhlmdfccaaGreatDoor

/- More plain facts on IEEE 754 doubles: what stands behind the point taken back as a whole number; 1 taken away. -/
namespace Go.Proofs.YtgjjcmhlmdfccaaGreatDoor
open Ieee
set_option maxRecDepth 8000

end Go.Proofs.YtgjjcmhlmdfccaaGreatDoor

/- A float's bits with one form for what is not a number; what is a number is like itself. -/
namespace Go.Proofs.YtgjjcmhlmdfccaaGreatDoor
open Ieee
set_option maxRecDepth 8000

end Go.Proofs.YtgjjcmhlmdfccaaGreatDoor

/- What the rest of the Reader's calls do: Bool, Int8, Uint32, Int64, Float, Buffer, Raw, Fail and End. -/
namespace Go.Proofs.YtgjjcmhlmdfccaaGreatDoor
open Go.RowKit
set_option maxRecDepth 8000

section
variable (g : Nat) (v : Value) (xs : List Int) (f : Int) (w : World)

end
end Go.Proofs.YtgjjcmhlmdfccaaGreatDoor

/- What the Reader's Float, Buffer and Text do. -/
namespace Go.Proofs.YtgjjcmhlmdfccaaGreatDoor
open Go.RowKit
set_option maxRecDepth 8000

section
variable (g : Nat) (v : Value) (xs : List Int) (f : Int) (w : World)

theorem run_text (w : World) (u : Value) (ys : List Int) (h : Sees w u ys) : (convert 30 9 u).run Tryz.prog w = .ok (.string (strOfNums ys)) w := by
  obtain ⟨ao, cap, rfl, _, _, _, h3⟩ := h
  rcases h3 with rfl | ⟨b, off, rfl, h3⟩
  · cases ao with
    | none => exact run_convert_bytes_nil w 30 5 Tryz.underlying30 Tryz.underlying5 _ _ _ Tryz.underlying9
    | some a =>
      rw [run_convert_bytes_string w 30 9 5 _ _ _ Tryz.underlying30 Tryz.underlying5 Tryz.underlying9]
      have hl : (loadCells a 0).run Tryz.prog w = .ok #[] w := by simp [loadCells, loadCellsFrom]
      simp [Conv.bytesToString, strOfNums, hl]
      rfl
  · exact run_convert_bytes_arg w 30 5 Tryz.underlying30 Tryz.underlying5 b off ys.length cap ys rfl h3 _ Tryz.underlying9

end
end Go.Proofs.YtgjjcmhlmdfccaaGreatDoor

/- bytes.Equal, slices.Equal at ids and at entries, at the same data: true. -/
namespace Go.Proofs.YtgjjcmhlmdfccaaGreatDoor
open Go.RowKit
set_option maxRecDepth 8000

theorem bytesEqual_same (v u : Value) (xs : List Int) (w : World) (h : Sees w v xs) (g : Sees w u xs) :
    Calls Tryz.prog 109 #[v, u] w fun e w' => e = .returned (.bool true) ∧ w' = w := by
  have h1 := run_text w v xs h
  have h2 := run_text w u xs g
  obtain ⟨ao, cap, rfl, _⟩ := h
  obtain ⟨bo, cbp, rfl, _⟩ := g
  go_enter Tryz.func109, Tryz.ntmps109
  go_wp2
  go_ret
  exact ⟨by simp, rfl⟩

set_option maxHeartbeats 400000 in
theorem slEqId_same (v u : Value) (l : List IdD) (w : World) (h : SeesR w v 2 (l.map IdD.cells)) (g : SeesR w u 2 (l.map IdD.cells)) :
    Calls Tryz.prog 111 #[v, u] w fun e w' => e = .returned (.bool true) ∧ ∃ n, w' = w.drewN n := by
  obtain ⟨ao, cap, rfl, hlc, hcm, _, h3⟩ := h
  obtain ⟨bo, cbp, rfl, glc, gcm, _, g3⟩ := g
  unfold maxLen at hcm gcm
  have hg : Tryz.prog.eqGuardType Tryz.prog.depth 102 = false := by kernel_rfl
  rw [List.length_map] at hlc glc ⊢
  go_enter Tryz.func111, Tryz.ntmps111
  go_wp2
  go_loopw [13] (fun i wr => ∃ k m : Nat, k ≤ l.length ∧ i = .int .i64 k ∧ wr = w.drewN m) (fun i _ => l.length - (intOf i).toNat)
  case atStart => exact ⟨0, 0, Nat.zero_le _, rfl, rfl⟩
  case round =>
    obtain ⟨k, m, hk, rfl, rfl⟩ := hrel
    by_cases hlt : k < l.length
    · rcases h3 with h3 | ⟨b, off, rfl, h3⟩
      · have : l.length = 0 := by simpa using congrArg List.length h3
        omega
      · rcases g3 with g3 | ⟨b', off', rfl, g3⟩
        · have : l.length = 0 := by simpa using congrArg List.length g3
          omega
        · have c0 := h3 k (by simpa using hlt) 0 (by omega)
          have c1 := h3 k (by simpa using hlt) 1 (by omega)
          have e0 := g3 k (by simpa using hlt) 0 (by omega)
          have e1 := g3 k (by simpa using hlt) 1 (by omega)
          simp [IdD.cells] at c0 c1 e0 e1
          clear h3 g3
          generalize l[k] = x at *
          have hq := neqId x.scheme x.name
          go_wp2
          go_quiet (fail)
          go_wp2
          go_roundw
          case rel => exact ⟨k + 1, _, by omega, by go_num, rfl⟩
          case measure => simp [intOf]; omega
    · obtain rfl : k = l.length := by omega
      go_wp2
      go_ret
      exact ⟨rfl, m, rfl⟩
set_option maxHeartbeats 400000 in
theorem slEqEntry_same (v u : Value) (l : List EnD) (w : World) (h : SeesR w v 3 (l.map EnD.cells)) (g : SeesR w u 3 (l.map EnD.cells)) :
    Calls Tryz.prog 110 #[v, u] w fun e w' => e = .returned (.bool true) ∧ ∃ n, w' = w.drewN n := by
  obtain ⟨ao, cap, rfl, hlc, hcm, _, h3⟩ := h
  obtain ⟨bo, cbp, rfl, glc, gcm, _, g3⟩ := g
  unfold maxLen at hcm gcm
  have hg : Tryz.prog.eqGuardType Tryz.prog.depth 104 = false := by kernel_rfl
  rw [List.length_map] at hlc glc ⊢
  go_enter Tryz.func110, Tryz.ntmps110
  go_wp2
  go_loopw [13] (fun i wr => ∃ k m : Nat, k ≤ l.length ∧ i = .int .i64 k ∧ wr = w.drewN m) (fun i _ => l.length - (intOf i).toNat)
  case atStart => exact ⟨0, 0, Nat.zero_le _, rfl, rfl⟩
  case round =>
    obtain ⟨k, m, hk, rfl, rfl⟩ := hrel
    by_cases hlt : k < l.length
    · rcases h3 with h3 | ⟨b, off, rfl, h3⟩
      · have : l.length = 0 := by simpa using congrArg List.length h3
        omega
      · rcases g3 with g3 | ⟨b', off', rfl, g3⟩
        · have : l.length = 0 := by simpa using congrArg List.length g3
          omega
        · have c0 := h3 k (by simpa using hlt) 0 (by omega)
          have c1 := h3 k (by simpa using hlt) 1 (by omega)
          have c2 := h3 k (by simpa using hlt) 2 (by omega)
          have e2 := g3 k (by simpa using hlt) 2 (by omega)
          have e0 := g3 k (by simpa using hlt) 0 (by omega)
          have e1 := g3 k (by simpa using hlt) 1 (by omega)
          simp [EnD.cells] at c0 c1 c2 e0 e1 e2
          clear h3 g3
          generalize l[k] = x at *
          have hq := neqEn x.perms x.id.scheme x.id.name
          go_wp2
          go_quiet (fail)
          go_wp2
          go_roundw
          case rel => exact ⟨k + 1, _, by omega, by go_num, rfl⟩
          case measure => simp [intOf]; omega
    · obtain rfl : k = l.length := by omega
      go_wp2
      go_ret
      exact ⟨rfl, m, rfl⟩

end Go.Proofs.YtgjjcmhlmdfccaaGreatDoor
