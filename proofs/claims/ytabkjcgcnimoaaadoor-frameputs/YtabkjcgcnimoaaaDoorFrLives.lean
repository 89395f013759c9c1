/- What the statements' own first look 'lives' answers: true; nothing that was there before is changed. -/
import Derived.Test.YtabkjcgcnimoaaaDoorFr5
namespace Go.Proofs.YtabkjcgcnimoaaaDoor
open Go.RowKit
set_option maxRecDepth 8000

theorem eqBytes_same (v u : Value) (xs : List Int) (w : World) (h : Sees w v xs) (g : Sees w u xs) : Calls Tryd.prog 8 #[v, u] w fun e w' => e = .returned (.bool true) ∧ ∃ n, w' = w.drewN n := by
  refine (eqBytes_any v u xs xs w h g).mono ?_
  rintro e w' ⟨rfl, hn⟩
  exact ⟨by simp, hn⟩

theorem frame7 : frameL [7] = [0, 0, 0, 1, 0, 8, 0, 8, 7, 66] := by decide

theorem bodyLen7 : bodyLen [0, 0, 0, 1, 0, 8, 0, 8, 7, 66] = 1 := by
  have := bodyLen_frame [7] [] (by decide)
  rw [List.append_nil, frame7] at this
  exact this

theorem put7 (w : World) : Calls Tryd.prog 7 #[.slice (some ⟨w.heap.size, 0, none⟩) 1 1] (w.alloc (.cells #[.int .u8 7] 5)) fun e w' =>
    ∃ g, e = .returned (.tuple #[.slice (some ⟨g, 0, none⟩) 10 10, .int .i64 0]) ∧ Owns w' (w.heap.size + 1) (.slice (some ⟨g, 0, none⟩) 10 10) [0, 0, 0, 1, 0, 8, 0, 8, 7, 66] ∧ Below (w.heap.size + 1) (w.alloc (.cells #[.int .u8 7] 5)) w' := by
  refine (put_ok _ [7] _ (sees_new #[.int .u8 7] [7] (by simp) rfl) (byts_lit rfl) (by decide)).mono ?_
  rintro e w' ⟨g, rfl, hg, ho, hb⟩
  rw [frame7, World.size_alloc] at ho
  rw [World.size_alloc] at hb
  exact ⟨g, by rw [frame7]; rfl, ho, hb⟩

theorem one7 (w : World) (v : Value) (h : Sees w v [0, 0, 0, 1, 0, 8, 0, 8, 7, 66]) : Calls Tryd.prog 9 #[v] w fun e w' =>
    ∃ g, e = .returned (.tuple #[.slice (some ⟨g, 0, none⟩) 1 1, .int .i64 0]) ∧ Owns w' w.heap.size (.slice (some ⟨g, 0, none⟩) 1 1) [7] ∧ Below w.heap.size w w' := by
  refine (one_ok _ _ _ h (byts_lit rfl) (by simp) (by rw [bodyLen7]; omega) (by rw [bodyLen7]; rfl)).mono ?_
  rintro e w' ⟨g, rfl, hg, ho, hb⟩
  rw [bodyLen7] at ho
  exact ⟨g, by rw [bodyLen7], ho, hb⟩

set_option maxHeartbeats 400000 in
theorem lives_any (w : World) : Calls Tryd.prog 4 #[] w fun e w' => e = .returned (.bool true) ∧ Below w.heap.size w w' := by
  go_enter Tryd.func4, Tryd.ntmps4
  go_wp2_with fail
  refine (put7 w).mono ?_
  rintro e w1 ⟨g, rfl, ho, hb⟩
  have H1 : Hid (Owns w1 (w.heap.size + 1) (.slice (some ⟨g, 0, none⟩) 10 10) [0, 0, 0, 1, 0, 8, 0, 8, 7, 66] ∧ Below w.heap.size w w1) := ⟨ho, ((Below.refl w.heap.size w).alloc (Nat.le_refl _) _).trans (hb.mono (by omega))⟩
  clear ho hb
  go_wp2_with fail
  refine (one7 _ _ (sees_new #[.int .u8 0, .int .u8 0, .int .u8 0, .int .u8 1, .int .u8 0, .int .u8 8, .int .u8 0, .int .u8 8, .int .u8 7, .int .u8 66] [0, 0, 0, 1, 0, 8, 0, 8, 7, 66] (by simp) rfl)).mono ?_
  rintro e w2 ⟨g2, rfl, ho, hb⟩
  rw [World.size_alloc] at ho hb
  have hlt : ∀ k, (Value.slice (some ⟨g, 0, none⟩) 10 10).ownBlock = some k → k < w1.heap.size := fun k hk => rows_lt H1.out.1 hk
  have H2 : Hid (Owns w2 (w1.heap.size + 1) (.slice (some ⟨g2, 0, none⟩) 1 1) [7] ∧ Sees w2 (.slice (some ⟨g, 0, none⟩) 10 10) [0, 0, 0, 1, 0, 8, 0, 8, 7, 66] ∧ Sees w2 (.slice (some ⟨w1.heap.size, 0, none⟩) 10 10) [0, 0, 0, 1, 0, 8, 0, 8, 7, 66] ∧ Below w.heap.size w w2) := by
    have hs1 := H1.out.2.size
    refine ⟨ho, (Sees.own ((H1.out.1.alloc _))).below hb (by simp), (sees_new #[.int .u8 0, .int .u8 0, .int .u8 0, .int .u8 1, .int .u8 0, .int .u8 8, .int .u8 0, .int .u8 8, .int .u8 7, .int .u8 66] [0, 0, 0, 1, 0, 8, 0, 8, 7, 66] (by simp) rfl).below hb (by simp), (H1.out.2.alloc hs1 _).trans (hb.mono (by omega))⟩
  clear ho hb hlt H1
  go_wp2_with fail
  refine (eqBytes_same _ _ [0, 0, 0, 1, 0, 8, 0, 8, 7, 66] _ H2.out.2.1 H2.out.2.2.1).mono ?_
  rintro e w3 ⟨rfl, n3, rfl⟩
  have H3 : Hid (Owns (w2.drewN n3) (w1.heap.size + 1) (.slice (some ⟨g2, 0, none⟩) 1 1) [7] ∧ Below w.heap.size w (w2.drewN n3)) := ⟨H2.out.1, below_drewN H2.out.2.2.2 _⟩
  clear H2
  generalize w2.drewN n3 = w3 at *
  go_wp2_with fail
  refine (eqBytes_same _ _ [7] _ (by exact Sees.own (H3.out.1.alloc _)) (by exact sees_new #[.int .u8 7] [7] (by simp) rfl)).mono ?_
  rintro e w4 ⟨rfl, n4, rfl⟩
  go_wp2
  go_ret
  exact ⟨rfl, below_drewN (H3.out.2.alloc H3.out.2.size _) _⟩

end Go.Proofs.YtabkjcgcnimoaaaDoor
