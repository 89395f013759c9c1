/- getOne and GetList of package pack at ids and at entries, at bytes that were laid. -/
import Derived.Test.YtgaepncccfipeaaDoorWfBJ
import Derived.Recover
import Derived.Maps.AppendAt
namespace Go.Proofs.YtgaepncccfipeaaDoor
open Go.RowKit
set_option maxRecDepth 8000

theorem getDefId (p : Addr) (w : World) : CallsD Tryd.prog 94 #[.pointer (some p)] .returning w fun e u' w' => e = .returned (.tuple #[]) ∧ u' = .returning ∧ w' = w := by
  refine callsD_of_wpS Tryd.func94 rfl fun c₀ cs hu => ?_
  apply wpS_seq
  apply wpS_region
  simp [wpOpsS, go_sem, recoverD, hu, Tryd.ntmps94, Exit.thenS]
  refine wpS_cond (t := false) (by simp [Act.eval, Array.replicate]) ?_
  simp only [Bool.false_eq_true, if_false]
  refine wpS_of_wp (wp_skip ?_)
  cases c₀
  simp_all [bodyPostS, results, Tryd.results94]

set_option maxHeartbeats 1000000 in
theorem getOneId_bk (l0 l1 : Int) (g : Nat) (v : Value) (x : IdD) (rest : List Int) (w : World) (h : IsR w g v (idB x ++ rest) 0) (hb : Byts (idB x ++ rest)) (h0 : x.scheme.size ≤ 24) (h1 : x.name.size ≤ 24) :
    Calls Tryd.prog 91 #[.pointer (some ⟨g, 0, none⟩), .func (.func 62) #[lay l0 l1] #[]] w fun e w' => e = .returned (.agg #[.string x.scheme, .string x.name]) ∧ ReadsTo w g v ⟨0, rest, 0⟩ w' := by
  have H : Hid (IsR w g v (idB x ++ rest) 0 ∧ Byts (idB x ++ rest) ∧ g < w.heap.size) := ⟨h, hb, lt_of_block h.1⟩
  have HVL : Hid (∀ k, v.ownBlock = some k → k ≠ w.heap.size + 1) := fun k e => by have := h.2.lt (by simp [idB, txtB, be4]) k e; omega
  clear h hb
  have hfn : ∀ w, (binOp .eql 105 (.func (.func 62) #[lay l0 l1] #[]) .nilFunc).run Tryd.prog w = .ok (.bool false) w := fun _ => by kernel_rfl
  obtain ⟨V, eV⟩ : ∃ V, V = (w.alloc (.cells #[.pointer (some ⟨g, 0, none⟩)] 63)).alloc (.cells #[.string ⟨#[]⟩, .string ⟨#[]⟩] 81) := ⟨_, rfl⟩
  have HV : Hid (Kept w V (fun _ => False) ∧ V.heap[w.heap.size + 1]? = some (.cells #[.string ⟨#[]⟩, .string ⟨#[]⟩] 81 (0, 0)) ∧ V.cell? ⟨w.heap.size, 0, none⟩ = some (.pointer (some ⟨g, 0, none⟩))) := by
    subst eV
    refine ⟨((Kept.refl w _).alloc _).alloc _, by have := heap_alloc_new (w.alloc (.cells #[.pointer (some ⟨g, 0, none⟩)] 63)) (.cells #[.string ⟨#[]⟩, .string ⟨#[]⟩] 81); simpa using this, ?_⟩
    rw [cell_of_row _ _ _ _ _ _ (show _ = some (Obj.cells #[.pointer (some ⟨g, 0, none⟩)] 63 (0, 0)) by rw [Below.heap_alloc _ _ _ (by simp)]; exact heap_alloc_new _ _)]
    rfl
  have HE : Hid _ := eV
  clear eV
  go_enter_defers Tryd.func91, Tryd.ntmps91
  go_wp2_with fail
  rw [← HE.out]
  clear HE
  refine (getId_bk l0 l1 g v x rest V (H.out.1.kept HV.out.1 (fun h => h) (fun _ _ h => h)) H.out.2.1 h0 h1).mono ?_
  rintro e w2 ⟨rfl, hr⟩
  have H2 : Hid (ReadsTo w g v ⟨0, rest, 0⟩ w2) := ReadsTo.next (HV.out.1.mono (fun _ _ h => h.elim)) (fun _ h => h) hr
  obtain ⟨v2, _, _, a3⟩ := hr
  have hrow := a3.heap HV.out.2.1 (by have := H.out.2.2; omega)
  have f0 := frozen_of_row w2 _ 0 _ _ hrow
  have c0 : w2.cell? ⟨w.heap.size + 1, 0, none⟩ = some (.string ⟨#[]⟩) := by rw [cell_of_row _ _ _ _ _ _ hrow]; rfl
  have f1 := frozen_of_row w2 _ 1 _ _ hrow
  have c1 : w2.cell? ⟨w.heap.size + 1, 1, none⟩ = some (.string ⟨#[]⟩) := by rw [cell_of_row _ _ _ _ _ _ hrow]; rfl
  clear a3
  go_wp2_with fail
  have hrow2 := (heap_setR (i := 1) (.string x.name) (heap_setR (i := 0) (.string x.scheme) hrow))
  have hk : Kept w2 ((w2.setCell ⟨w.heap.size + 1, 0, none⟩ (.string x.scheme)).setCell ⟨w.heap.size + 1, 1, none⟩ (.string x.name)) (fun k => k = w.heap.size + 1) := (((Kept.refl w2 (fun k => k = w.heap.size + 1)).setCell ⟨w.heap.size + 1, 0, none⟩ (.string x.scheme) (fun _ => rfl)).setCell ⟨w.heap.size + 1, 1, none⟩ (.string x.name) (fun _ => rfl))
  have hrd : ReadsTo w g v ⟨0, rest, 0⟩ ((w2.setCell ⟨w.heap.size + 1, 0, none⟩ (.string x.scheme)).setCell ⟨w.heap.size + 1, 1, none⟩ (.string x.name)) := H2.out.aside hk (fun k e => by have := H.out.2.2; omega) (by have := H.out.2.2; omega) HVL.out
  refine leaves_cons (f := 94) (args := #[.pointer (some ⟨w.heap.size, 0, none⟩)]) (by simp) (by simp [go_sem]) ?_
  refine (getDefId _ _).mono ?_
  rintro e u' w'' ⟨rfl, rfl, rfl⟩
  refine ⟨.agg #[.string x.scheme, .string x.name], ?_, rfl, hrd⟩
  have hld := run_loadVar_row (P := Tryd.prog) _ _ _ 81 _ _ _ hrow2 Tryd.underlying81 rfl (by kernel_rfl)
  rw [resCell1 Tryd.results91]
  show ((asAddr (.pointer (some ⟨w.heap.size + 1, 0, none⟩))).run Tryd.prog _).andThen _ = _
  simp only [asAddr, Sem.run_pure, Result.andThen_ok, hld]
  rfl

theorem getDefEntry (p : Addr) (w : World) : CallsD Tryd.prog 93 #[.pointer (some p)] .returning w fun e u' w' => e = .returned (.tuple #[]) ∧ u' = .returning ∧ w' = w := by
  refine callsD_of_wpS Tryd.func93 rfl fun c₀ cs hu => ?_
  apply wpS_seq
  apply wpS_region
  simp [wpOpsS, go_sem, recoverD, hu, Tryd.ntmps93, Exit.thenS]
  refine wpS_cond (t := false) (by simp [Act.eval, Array.replicate]) ?_
  simp only [Bool.false_eq_true, if_false]
  refine wpS_of_wp (wp_skip ?_)
  cases c₀
  simp_all [bodyPostS, results, Tryd.results93]

set_option maxHeartbeats 1000000 in
theorem getOneEntry_bk (l0 l1 : Int) (g : Nat) (v : Value) (x : EnD) (rest : List Int) (w : World) (h : IsR w g v (enB x ++ rest) 0) (hb : Byts (enB x ++ rest)) (hp0 : -128 ≤ x.perms) (hp1 : x.perms ≤ 127) (h0 : x.id.scheme.size ≤ 24) (h1 : x.id.name.size ≤ 24) :
    Calls Tryd.prog 89 #[.pointer (some ⟨g, 0, none⟩), .func (.func 58) #[lay l0 l1] #[]] w fun e w' => e = .returned (.agg #[.int .i8 x.perms, .string x.id.scheme, .string x.id.name]) ∧ ReadsTo w g v ⟨0, rest, 0⟩ w' := by
  have H : Hid (IsR w g v (enB x ++ rest) 0 ∧ Byts (enB x ++ rest) ∧ g < w.heap.size) := ⟨h, hb, lt_of_block h.1⟩
  have HVL : Hid (∀ k, v.ownBlock = some k → k ≠ w.heap.size + 1) := fun k e => by have := h.2.lt (by simp [enB]) k e; omega
  clear h hb
  have hfn : ∀ w, (binOp .eql 102 (.func (.func 58) #[lay l0 l1] #[]) .nilFunc).run Tryd.prog w = .ok (.bool false) w := fun _ => by kernel_rfl
  obtain ⟨V, eV⟩ : ∃ V, V = (w.alloc (.cells #[.pointer (some ⟨g, 0, none⟩)] 63)).alloc (.cells #[.int .i8 0, .string ⟨#[]⟩, .string ⟨#[]⟩] 83) := ⟨_, rfl⟩
  have HV : Hid (Kept w V (fun _ => False) ∧ V.heap[w.heap.size + 1]? = some (.cells #[.int .i8 0, .string ⟨#[]⟩, .string ⟨#[]⟩] 83 (0, 0)) ∧ V.cell? ⟨w.heap.size, 0, none⟩ = some (.pointer (some ⟨g, 0, none⟩))) := by
    subst eV
    refine ⟨((Kept.refl w _).alloc _).alloc _, by have := heap_alloc_new (w.alloc (.cells #[.pointer (some ⟨g, 0, none⟩)] 63)) (.cells #[.int .i8 0, .string ⟨#[]⟩, .string ⟨#[]⟩] 83); simpa using this, ?_⟩
    rw [cell_of_row _ _ _ _ _ _ (show _ = some (Obj.cells #[.pointer (some ⟨g, 0, none⟩)] 63 (0, 0)) by rw [Below.heap_alloc _ _ _ (by simp)]; exact heap_alloc_new _ _)]
    rfl
  have HE : Hid _ := eV
  clear eV
  go_enter_defers Tryd.func89, Tryd.ntmps89
  go_wp2_with fail
  rw [← HE.out]
  clear HE
  refine (getEntry_bk l0 l1 g v x rest V (H.out.1.kept HV.out.1 (fun h => h) (fun _ _ h => h)) H.out.2.1 hp0 hp1 h0 h1).mono ?_
  rintro e w2 ⟨rfl, hr⟩
  have H2 : Hid (ReadsTo w g v ⟨0, rest, 0⟩ w2) := ReadsTo.next (HV.out.1.mono (fun _ _ h => h.elim)) (fun _ h => h) hr
  obtain ⟨v2, _, _, a3⟩ := hr
  have hrow := a3.heap HV.out.2.1 (by have := H.out.2.2; omega)
  have f0 := frozen_of_row w2 _ 0 _ _ hrow
  have c0 : w2.cell? ⟨w.heap.size + 1, 0, none⟩ = some (.int .i8 0) := by rw [cell_of_row _ _ _ _ _ _ hrow]; rfl
  have f1 := frozen_of_row w2 _ 1 _ _ hrow
  have c1 : w2.cell? ⟨w.heap.size + 1, 1, none⟩ = some (.string ⟨#[]⟩) := by rw [cell_of_row _ _ _ _ _ _ hrow]; rfl
  have f2 := frozen_of_row w2 _ 2 _ _ hrow
  have c2 : w2.cell? ⟨w.heap.size + 1, 2, none⟩ = some (.string ⟨#[]⟩) := by rw [cell_of_row _ _ _ _ _ _ hrow]; rfl
  clear a3
  go_wp2_with fail
  have hrow2 := (heap_setR (i := 2) (.string x.id.name) (heap_setR (i := 1) (.string x.id.scheme) (heap_setR (i := 0) (.int .i8 x.perms) hrow)))
  have hk : Kept w2 (((w2.setCell ⟨w.heap.size + 1, 0, none⟩ (.int .i8 x.perms)).setCell ⟨w.heap.size + 1, 1, none⟩ (.string x.id.scheme)).setCell ⟨w.heap.size + 1, 2, none⟩ (.string x.id.name)) (fun k => k = w.heap.size + 1) := ((((Kept.refl w2 (fun k => k = w.heap.size + 1)).setCell ⟨w.heap.size + 1, 0, none⟩ (.int .i8 x.perms) (fun _ => rfl)).setCell ⟨w.heap.size + 1, 1, none⟩ (.string x.id.scheme) (fun _ => rfl)).setCell ⟨w.heap.size + 1, 2, none⟩ (.string x.id.name) (fun _ => rfl))
  have hrd : ReadsTo w g v ⟨0, rest, 0⟩ (((w2.setCell ⟨w.heap.size + 1, 0, none⟩ (.int .i8 x.perms)).setCell ⟨w.heap.size + 1, 1, none⟩ (.string x.id.scheme)).setCell ⟨w.heap.size + 1, 2, none⟩ (.string x.id.name)) := H2.out.aside hk (fun k e => by have := H.out.2.2; omega) (by have := H.out.2.2; omega) HVL.out
  refine leaves_cons (f := 93) (args := #[.pointer (some ⟨w.heap.size, 0, none⟩)]) (by simp) (by simp [go_sem]) ?_
  refine (getDefEntry _ _).mono ?_
  rintro e u' w'' ⟨rfl, rfl, rfl⟩
  refine ⟨.agg #[.int .i8 x.perms, .string x.id.scheme, .string x.id.name], ?_, rfl, hrd⟩
  have hld := run_loadVar_row (P := Tryd.prog) _ _ _ 83 _ _ _ hrow2 Tryd.underlying83 rfl (by kernel_rfl)
  rw [resCell1 Tryd.results89]
  show ((asAddr (.pointer (some ⟨w.heap.size + 1, 0, none⟩))).run Tryd.prog _).andThen _ = _
  simp only [asAddr, Sem.run_pure, Result.andThen_ok, hld]
  rfl
end Go.Proofs.YtgaepncccfipeaaDoor
