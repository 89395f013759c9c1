/- EqTxn of lagoonref00 at two transactions of the same data, and what the statements' own first look 'works' answers: true. -/
import Derived.Test.YtoeialngbbfoeaaGreatDoorEqQJ
import Derived.Test.YtoeialngbbfoeaaGreatDoorWrTJ
import Derived.Test.YtoeialngbbfoeaaGreatDoorWkReadJ
namespace Go.Proofs.YtoeialngbbfoeaaGreatDoor
open Go.RowKit
set_option maxRecDepth 8000

def rqWd : Rq := .mk ⟨2, pathW, [], [], -1, false, false, 0, 0, []⟩ 0 (fun i => i.elim0)
def txWd : TxD := ⟨1, 2, 3, 4, 5, rqWd⟩
theorem sees_works (w : World) : SeesTx w txW.toList txWd :=
  ⟨rqW.toList, rfl, .mk ⟨2, pathW, [], [], -1, false, false, 0, 0, []⟩ 0 (fun i => i.elim0) _ _ _ _ (fun i => i.elim0) ⟨none, 0, rfl, Nat.le_refl _, by unfold maxLen; omega, fun _ => rfl, .inl rfl⟩ (SeesR.nil w 3) (SeesR.nil w 2) (SeesR.nil w 11) (fun i => i.elim0)⟩

set_option maxHeartbeats 1000000 in
theorem works4_any (w : World) (hn : Nam w) : Calls Tryz.prog 4 #[] w fun e w' => e = .returned (.bool true) ∧ Below w.heap.size w w' := by
  obtain ⟨V, eV⟩ : ∃ V, V = w.alloc (.cells txW 35) := ⟨_, rfl⟩
  have HV : Hid (Below w.heap.size w V ∧ V.heap[w.heap.size]? = some (.cells txW 35 (0, 0)) ∧ Nam V) := by
    have hb : Below w.heap.size w V := by subst eV; exact one_alloc _ _
    exact ⟨hb, by subst eV; exact heap_alloc_new _ _, hn.below hb hn.lt⟩
  have HE : Hid _ := eV
  clear eV hn
  go_enter Tryz.func4, Tryz.ntmps4
  go_wp2_with fail
  rw [← show V = w.alloc (.cells #[.int .u32 1, .int .u32 2, .int .i8 3, .int .u32 4, .int .i64 5, .int .i8 2, .string ⟨#[47, 97]⟩, .slice none 0 0, .slice none 0 0, .int .i32 (-1), .bool false, .bool false, .int .i64 0, .int .i32 0, .slice none 0 0, .slice none 0 0] 35) from HE.out]
  refine (write_works V HV.out.2.2).mono ?_
  rintro e w1 ⟨vb, rfl, ho, b1⟩
  obtain ⟨gb, cb, rfl, _⟩ := owns_some ho (by decide)
  have hb1 : Below w.heap.size w w1 := HV.out.1.trans (b1.mono HV.out.1.size)
  have HO : Hid (Owns w1 V.heap.size (.slice (some ⟨gb, 0, none⟩) wkAll.length cb) wkAll ∧ Below w.heap.size w w1 ∧ Nam w1 ∧ w1.heap[w.heap.size]? = some (.cells txW 35 (0, 0))) :=
    ⟨ho, hb1, HV.out.2.2.below b1 HV.out.2.2.lt, (Below.kept b1).heap HV.out.2.1 (by have := lt_of_block HV.out.2.1; omega)⟩
  clear ho b1 hb1 HV HE
  rw [show wkAll.length = 44 from rfl] at *
  as_aux_lemma =>
    go_wp2_with fail
    refine (read_works _ w1 (Sees.own HO.out.1) HO.out.2.2.1).mono ?_
    rintro e w2 ⟨rfl, b2⟩
    have hb2 : Below w.heap.size w w2 := HO.out.2.1.trans (b2.mono HO.out.2.1.size)
    have hr2 : w2.heap[w.heap.size]? = some (.cells txW 35 (0, 0)) := (Below.kept b2).heap HO.out.2.2.2 (by have := lt_of_block HO.out.2.2.2; omega)
    have HB2 : Hid (Below w.heap.size w w2) := hb2
    have c0 : w2.cell? ⟨w.heap.size, 0, none⟩ = some (.int .u32 1) := by rw [cell_of_row _ _ 0 _ _ _ hr2]; rfl
    have c1 : w2.cell? ⟨w.heap.size, 1, none⟩ = some (.int .u32 2) := by rw [cell_of_row _ _ 1 _ _ _ hr2]; rfl
    have c2 : w2.cell? ⟨w.heap.size, 2, none⟩ = some (.int .i8 3) := by rw [cell_of_row _ _ 2 _ _ _ hr2]; rfl
    have c3 : w2.cell? ⟨w.heap.size, 3, none⟩ = some (.int .u32 4) := by rw [cell_of_row _ _ 3 _ _ _ hr2]; rfl
    have c4 : w2.cell? ⟨w.heap.size, 4, none⟩ = some (.int .i64 5) := by rw [cell_of_row _ _ 4 _ _ _ hr2]; rfl
    have c5 : w2.cell? ⟨w.heap.size, 5, none⟩ = some (.int .i8 2) := by rw [cell_of_row _ _ 5 _ _ _ hr2]; rfl
    have c6 : w2.cell? ⟨w.heap.size, 6, none⟩ = some (.string ⟨#[47, 97]⟩) := by rw [cell_of_row _ _ 6 _ _ _ hr2]; rfl
    have c7 : w2.cell? ⟨w.heap.size, 7, none⟩ = some (.slice none 0 0) := by rw [cell_of_row _ _ 7 _ _ _ hr2]; rfl
    have c8 : w2.cell? ⟨w.heap.size, 8, none⟩ = some (.slice none 0 0) := by rw [cell_of_row _ _ 8 _ _ _ hr2]; rfl
    have c9 : w2.cell? ⟨w.heap.size, 9, none⟩ = some (.int .i32 (-1)) := by rw [cell_of_row _ _ 9 _ _ _ hr2]; rfl
    have c10 : w2.cell? ⟨w.heap.size, 10, none⟩ = some (.bool false) := by rw [cell_of_row _ _ 10 _ _ _ hr2]; rfl
    have c11 : w2.cell? ⟨w.heap.size, 11, none⟩ = some (.bool false) := by rw [cell_of_row _ _ 11 _ _ _ hr2]; rfl
    have c12 : w2.cell? ⟨w.heap.size, 12, none⟩ = some (.int .i64 0) := by rw [cell_of_row _ _ 12 _ _ _ hr2]; rfl
    have c13 : w2.cell? ⟨w.heap.size, 13, none⟩ = some (.int .i32 0) := by rw [cell_of_row _ _ 13 _ _ _ hr2]; rfl
    have c14 : w2.cell? ⟨w.heap.size, 14, none⟩ = some (.slice none 0 0) := by rw [cell_of_row _ _ 14 _ _ _ hr2]; rfl
    have c15 : w2.cell? ⟨w.heap.size, 15, none⟩ = some (.slice none 0 0) := by rw [cell_of_row _ _ 15 _ _ _ hr2]; rfl
    have hlt : w.heap.size < w2.heap.size := lt_of_block hr2
    clear b2 HO hb2 hr2
    as_aux_lemma =>
      go_wp2_with fail
      refine (eqTxn_same txW.toList txW.toList txWd _ (sees_works _) (sees_works _)).mono ?_
      rintro e w3 ⟨rfl, b3⟩
      have HB3 : Hid (Below w.heap.size w w3) := (HB2.out.alloc HB2.out.size _).trans (b3.mono (by have := HB2.out.size; simp; omega))
      clear b3 HB2
      as_aux_lemma =>
        go_wp2
        go_ret
        exact ⟨rfl, HB3.out⟩
end Go.Proofs.YtoeialngbbfoeaaGreatDoor
