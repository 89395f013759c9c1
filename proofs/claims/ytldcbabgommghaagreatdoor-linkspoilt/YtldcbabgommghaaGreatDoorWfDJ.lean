/- getId and getEntry of package txn at bytes that were laid. -/
import Derived.Test.YtldcbabgommghaaGreatDoorWfAJ
import Derived.Recover
import Derived.Maps.AppendAt
import Derived.Test.YtldcbabgommghaaGreatDoorCopyTJ
namespace Go.Proofs.YtldcbabgommghaaGreatDoor
open Go.RowKit
set_option maxRecDepth 8000

/-- A cell of a block that is none of the Reader's is stored. -/
theorem ReadsTo.aside {w w1 w2 : World} {g n : Nat} {v : Value} {xs : List Int} (h : ReadsTo w g v ⟨0, xs, 0⟩ w1) (hk : Kept w1 w2 (fun k => k = n)) (hn : ∀ k, k = n → w.heap.size ≤ k) (hg : g ≠ n) (hv : ∀ k, v.ownBlock = some k → k ≠ n) : ReadsTo w g v ⟨0, xs, 0⟩ w2 := by
  obtain ⟨v', a, b, c⟩ := h
  exact ⟨v', a.kept hk hg (fun k e => hv k (b k e)), b, c.trans hk (fun k hk' e => by have := hn k e; omega)⟩

set_option maxHeartbeats 1000000 in
theorem getId_bk (l0 l1 : Int) (g : Nat) (v : Value) (x : IdD) (rest : List Int) (w : World) (h : IsR w g v (idB x ++ rest) 0) (hb : Byts (idB x ++ rest)) (h0 : x.scheme.size ≤ 24) (h1 : x.name.size ≤ 24) :
    Calls Tryz.prog 161 #[lay l0 l1, .pointer (some ⟨g, 0, none⟩)] w fun e w' => e = .returned (.agg #[.string x.scheme, .string x.name]) ∧ ReadsTo w g v ⟨0, rest, 0⟩ w' := by
  have eb : idB x ++ rest = txtB x.scheme ++ (txtB x.name ++ rest) := by simp [idB]
  rw [eb] at h hb
  have H : Hid (IsR w g v (txtB x.scheme ++ (txtB x.name ++ rest)) 0 ∧ Byts (txtB x.scheme ++ (txtB x.name ++ rest)) ∧ g < w.heap.size) := ⟨h, hb, lt_of_block h.1⟩
  have HVL : Hid (∀ k, v.ownBlock = some k → k ≠ w.heap.size + 1) := fun k e => by have := h.2.lt (by simp [txtB, be4]) k e; omega
  clear h hb eb
  obtain ⟨V, eV⟩ : ∃ V, V = (w.alloc (.cells #[.int .i8 l0, .int .u16 l1] 153)).alloc (.cells #[.string ⟨#[]⟩, .string ⟨#[]⟩] 129) := ⟨_, rfl⟩
  have HV : Hid (Kept w V (fun _ => False) ∧ V.heap[w.heap.size + 1]? = some (.cells #[.string ⟨#[]⟩, .string ⟨#[]⟩] 129 (0, 0))) := by
    subst eV
    exact ⟨((Kept.refl w _).alloc _).alloc _, by have := heap_alloc_new (w.alloc (.cells #[.int .i8 l0, .int .u16 l1] 153)) (.cells #[.string ⟨#[]⟩, .string ⟨#[]⟩] 129); simpa using this⟩
  have HE : Hid _ := eV
  clear eV
  go_enter Tryz.func161, Tryz.ntmps161
  go_wp2_with fail
  rw [← HE.out]
  clear HE
  refine (gText x.scheme 24 (H.out.1.kept HV.out.1 (fun h => h) (fun _ _ h => h)) H.out.2.1 (by omega) (by omega)).mono ?_
  rintro e w1 ⟨rfl, hr⟩
  obtain ⟨v1, a1, a2, a3⟩ := hr
  have H1 : Hid (IsR w1 g v1 (txtB x.name ++ rest) 0 ∧ (∀ k, v1.ownBlock = some k → v.ownBlock = some k) ∧ Kept w w1 (· = g) ∧ w1.heap[w.heap.size + 1]? = some (.cells #[.string ⟨#[]⟩, .string ⟨#[]⟩] 129 (0, 0))) := ⟨a1, a2, (HV.out.1.mono (fun _ _ h => h.elim)).trans a3 (fun _ _ h => h), a3.heap HV.out.2 (by have := H.out.2.2; omega)⟩
  clear a1 a2 a3
  go_wp2_with fail
  refine (gText x.name 24 H1.out.1 H.out.2.1.right (by omega) (by omega)).mono ?_
  rintro e w2 ⟨rfl, hr⟩
  have H3 : Hid (∀ k, v.ownBlock = some k → k ≠ w.heap.size + 1) := HVL
  have H2 : Hid (ReadsTo w g v ⟨0, rest, 0⟩ w2) := ReadsTo.next H1.out.2.2.1 H1.out.2.1 hr
  obtain ⟨v2, _, _, a3⟩ := hr
  have hrow := a3.heap H1.out.2.2.2 (by have := H.out.2.2; omega)
  have f0 := frozen_of_row w2 _ 0 _ _ hrow
  have f1 := frozen_of_row w2 _ 1 _ _ hrow
  have c0 : w2.cell? ⟨w.heap.size + 1, 0, none⟩ = some (.string ⟨#[]⟩) := by rw [cell_of_row _ _ _ _ _ _ hrow]; rfl
  have c1 : w2.cell? ⟨w.heap.size + 1, 1, none⟩ = some (.string ⟨#[]⟩) := by rw [cell_of_row _ _ _ _ _ _ hrow]; rfl
  clear a3
  go_wp2_with fail
  have hrow2 := heap_setR (i := 1) (.string x.name) (heap_setR (i := 0) (.string x.scheme) hrow)
  have hk : Kept w2 ((w2.setCell ⟨w.heap.size + 1, 0, none⟩ (.string x.scheme)).setCell ⟨w.heap.size + 1, 1, none⟩ (.string x.name)) (fun k => k = w.heap.size + 1) := ((Kept.refl w2 (fun k => k = w.heap.size + 1)).setCell ⟨w.heap.size + 1, 0, none⟩ _ (fun _ => rfl)).setCell ⟨w.heap.size + 1, 1, none⟩ _ (fun _ => rfl)
  have hrd : ReadsTo w g v ⟨0, rest, 0⟩ ((w2.setCell ⟨w.heap.size + 1, 0, none⟩ (.string x.scheme)).setCell ⟨w.heap.size + 1, 1, none⟩ (.string x.name)) := H2.out.aside hk (fun k e => by have := H.out.2.2; omega) (by have := H.out.2.2; omega) H3.out
  refine bodyPost_ret (v := .agg #[.string x.scheme, .string x.name]) ?_ rfl ⟨rfl, hrd⟩
  have hld := run_loadVar_row (P := Tryz.prog) _ _ _ 129 _ _ _ hrow2 Tryz.underlying129 rfl (by kernel_rfl)
  rw [resCell1 Tryz.results161]
  show ((asAddr (.pointer (some ⟨w.heap.size + 1, 0, none⟩))).run Tryz.prog _).andThen _ = _
  simp only [asAddr, Sem.run_pure, Result.andThen_ok, hld]
  rfl

set_option maxHeartbeats 1000000 in
theorem getEntry_bk (l0 l1 : Int) (g : Nat) (v : Value) (x : EnD) (rest : List Int) (w : World) (h : IsR w g v (enB x ++ rest) 0) (hb : Byts (enB x ++ rest)) (hp0 : -128 ≤ x.perms) (hp1 : x.perms ≤ 127) (h0 : x.id.scheme.size ≤ 24) (h1 : x.id.name.size ≤ 24) :
    Calls Tryz.prog 158 #[lay l0 l1, .pointer (some ⟨g, 0, none⟩)] w fun e w' => e = .returned (.agg #[.int .i8 x.perms, .string x.id.scheme, .string x.id.name]) ∧ ReadsTo w g v ⟨0, rest, 0⟩ w' := by
  have eb : enB x ++ rest = [x.perms % 256] ++ (idB x.id ++ rest) := by simp [enB]
  rw [eb] at h hb
  have H : Hid (IsR w g v ([x.perms % 256] ++ (idB x.id ++ rest)) 0 ∧ Byts ([x.perms % 256] ++ (idB x.id ++ rest)) ∧ g < w.heap.size) := ⟨h, hb, lt_of_block h.1⟩
  have HVL : Hid (∀ k, v.ownBlock = some k → k ≠ w.heap.size + 1) := fun k e => by have := h.2.lt (by simp) k e; omega
  clear h hb eb
  obtain ⟨V, eV⟩ : ∃ V, V = (w.alloc (.cells #[.int .i8 l0, .int .u16 l1] 153)).alloc (.cells #[.int .i8 0, .string ⟨#[]⟩, .string ⟨#[]⟩] 131) := ⟨_, rfl⟩
  have HV : Hid (Kept w V (fun _ => False) ∧ V.heap[w.heap.size + 1]? = some (.cells #[.int .i8 0, .string ⟨#[]⟩, .string ⟨#[]⟩] 131 (0, 0)) ∧ V.heap[w.heap.size]? = some (.cells #[.int .i8 l0, .int .u16 l1] 153 (0, 0))) := by
    subst eV
    exact ⟨((Kept.refl w _).alloc _).alloc _, by have := heap_alloc_new (w.alloc (.cells #[.int .i8 l0, .int .u16 l1] 153)) (.cells #[.int .i8 0, .string ⟨#[]⟩, .string ⟨#[]⟩] 131); simpa using this, by rw [Below.heap_alloc _ _ _ (by simp)]; exact heap_alloc_new _ _⟩
  have HE : Hid _ := eV
  clear eV
  go_enter Tryz.func158, Tryz.ntmps158
  go_wp2_with fail
  rw [← HE.out]
  clear HE
  refine (gI8 x.perms (H.out.1.kept HV.out.1 (fun h => h) (fun _ _ h => h)) H.out.2.1 hp0 hp1).mono ?_
  rintro e w1 ⟨rfl, hr⟩
  obtain ⟨v1, a1, a2, a3⟩ := hr
  have H1 : Hid (IsR w1 g v1 (idB x.id ++ rest) 0 ∧ (∀ k, v1.ownBlock = some k → v.ownBlock = some k) ∧ Kept w w1 (· = g) ∧ w1.heap[w.heap.size + 1]? = some (.cells #[.int .i8 0, .string ⟨#[]⟩, .string ⟨#[]⟩] 131 (0, 0))) := ⟨a1, a2, (HV.out.1.mono (fun _ _ h => h.elim)).trans a3 (fun _ _ h => h), a3.heap HV.out.2.1 (by have := H.out.2.2; omega)⟩
  have hlr := a3.heap HV.out.2.2 (by have := H.out.2.2; omega)
  have d0 : w1.cell? ⟨w.heap.size, 0, none⟩ = some (.int .i8 l0) := by rw [cell_of_row _ _ _ _ _ _ hlr]; rfl
  have d1 : w1.cell? ⟨w.heap.size, 1, none⟩ = some (.int .u16 l1) := by rw [cell_of_row _ _ _ _ _ _ hlr]; rfl
  clear a1 a2 a3 hlr
  go_wp2_with fail
  refine (getId_bk l0 l1 g v1 x.id rest w1 H1.out.1 H.out.2.1.right h0 h1).mono ?_
  rintro e w2 ⟨rfl, hr⟩
  have H2 : Hid (ReadsTo w g v ⟨0, rest, 0⟩ w2) := ReadsTo.next H1.out.2.2.1 H1.out.2.1 hr
  obtain ⟨v2, _, _, a3⟩ := hr
  have hrow := a3.heap H1.out.2.2.2 (by have := H.out.2.2; omega)
  have f0 := frozen_of_row w2 _ 0 _ _ hrow
  have f1 := frozen_of_row w2 _ 1 _ _ hrow
  have f2 := frozen_of_row w2 _ 2 _ _ hrow
  have c0 : w2.cell? ⟨w.heap.size + 1, 0, none⟩ = some (.int .i8 0) := by rw [cell_of_row _ _ _ _ _ _ hrow]; rfl
  have c1 : w2.cell? ⟨w.heap.size + 1, 1, none⟩ = some (.string ⟨#[]⟩) := by rw [cell_of_row _ _ _ _ _ _ hrow]; rfl
  have c2 : w2.cell? ⟨w.heap.size + 1, 2, none⟩ = some (.string ⟨#[]⟩) := by rw [cell_of_row _ _ _ _ _ _ hrow]; rfl
  clear a3 d0 d1
  go_wp2_with fail
  have hrow2 := heap_setR (i := 2) (.string x.id.name) (heap_setR (i := 1) (.string x.id.scheme) (heap_setR (i := 0) (.int .i8 x.perms) hrow))
  have hk : Kept w2 (((w2.setCell ⟨w.heap.size + 1, 0, none⟩ (.int .i8 x.perms)).setCell ⟨w.heap.size + 1, 1, none⟩ (.string x.id.scheme)).setCell ⟨w.heap.size + 1, 2, none⟩ (.string x.id.name)) (fun k => k = w.heap.size + 1) := (((Kept.refl w2 (fun k => k = w.heap.size + 1)).setCell ⟨w.heap.size + 1, 0, none⟩ _ (fun _ => rfl)).setCell ⟨w.heap.size + 1, 1, none⟩ _ (fun _ => rfl)).setCell ⟨w.heap.size + 1, 2, none⟩ _ (fun _ => rfl)
  have hrd : ReadsTo w g v ⟨0, rest, 0⟩ (((w2.setCell ⟨w.heap.size + 1, 0, none⟩ (.int .i8 x.perms)).setCell ⟨w.heap.size + 1, 1, none⟩ (.string x.id.scheme)).setCell ⟨w.heap.size + 1, 2, none⟩ (.string x.id.name)) := H2.out.aside hk (fun k e => by have := H.out.2.2; omega) (by have := H.out.2.2; omega) HVL.out
  refine bodyPost_ret (v := .agg #[.int .i8 x.perms, .string x.id.scheme, .string x.id.name]) ?_ rfl ⟨rfl, hrd⟩
  have hld := run_loadVar_row (P := Tryz.prog) _ _ _ 131 _ _ _ hrow2 Tryz.underlying131 rfl (by kernel_rfl)
  rw [resCell1 Tryz.results158]
  show ((asAddr (.pointer (some ⟨w.heap.size + 1, 0, none⟩))).run Tryz.prog _).andThen _ = _
  simp only [asAddr, Sem.run_pure, Result.andThen_ok, hld]
  rfl
end Go.Proofs.YtldcbabgommghaaGreatDoor

/- getOne and GetList of package pack at ids and at entries, at bytes that were laid. -/
namespace Go.Proofs.YtldcbabgommghaaGreatDoor
open Go.RowKit
set_option maxRecDepth 8000

theorem getDefId (p : Addr) (w : World) : CallsD Tryz.prog 176 #[.pointer (some p)] .returning w fun e u' w' => e = .returned (.tuple #[]) ∧ u' = .returning ∧ w' = w := by
  refine callsD_of_wpS Tryz.func176 rfl fun c₀ cs hu => ?_
  apply wpS_seq
  apply wpS_region
  simp [wpOpsS, go_sem, recoverD, hu, Tryz.ntmps176, Exit.thenS]
  refine wpS_cond (t := false) (by simp [Act.eval, Array.replicate]) ?_
  simp only [Bool.false_eq_true, if_false]
  refine wpS_of_wp (wp_skip ?_)
  cases c₀
  simp_all [bodyPostS, results, Tryz.results176]

set_option maxHeartbeats 1000000 in
theorem getOneId_bk (l0 l1 : Int) (g : Nat) (v : Value) (x : IdD) (rest : List Int) (w : World) (h : IsR w g v (idB x ++ rest) 0) (hb : Byts (idB x ++ rest)) (h0 : x.scheme.size ≤ 24) (h1 : x.name.size ≤ 24) :
    Calls Tryz.prog 173 #[.pointer (some ⟨g, 0, none⟩), .func (.func 161) #[lay l0 l1] #[]] w fun e w' => e = .returned (.agg #[.string x.scheme, .string x.name]) ∧ ReadsTo w g v ⟨0, rest, 0⟩ w' := by
  have H : Hid (IsR w g v (idB x ++ rest) 0 ∧ Byts (idB x ++ rest) ∧ g < w.heap.size) := ⟨h, hb, lt_of_block h.1⟩
  have HVL : Hid (∀ k, v.ownBlock = some k → k ≠ w.heap.size + 1) := fun k e => by have := h.2.lt (by simp [idB, txtB, be4]) k e; omega
  clear h hb
  have hfn : ∀ w, (binOp .eql 174 (.func (.func 161) #[lay l0 l1] #[]) .nilFunc).run Tryz.prog w = .ok (.bool false) w := fun _ => by kernel_rfl
  obtain ⟨V, eV⟩ : ∃ V, V = (w.alloc (.cells #[.pointer (some ⟨g, 0, none⟩)] 109)).alloc (.cells #[.string ⟨#[]⟩, .string ⟨#[]⟩] 129) := ⟨_, rfl⟩
  have HV : Hid (Kept w V (fun _ => False) ∧ V.heap[w.heap.size + 1]? = some (.cells #[.string ⟨#[]⟩, .string ⟨#[]⟩] 129 (0, 0)) ∧ V.cell? ⟨w.heap.size, 0, none⟩ = some (.pointer (some ⟨g, 0, none⟩))) := by
    subst eV
    refine ⟨((Kept.refl w _).alloc _).alloc _, by have := heap_alloc_new (w.alloc (.cells #[.pointer (some ⟨g, 0, none⟩)] 109)) (.cells #[.string ⟨#[]⟩, .string ⟨#[]⟩] 129); simpa using this, ?_⟩
    rw [cell_of_row _ _ _ _ _ _ (show _ = some (Obj.cells #[.pointer (some ⟨g, 0, none⟩)] 109 (0, 0)) by rw [Below.heap_alloc _ _ _ (by simp)]; exact heap_alloc_new _ _)]
    rfl
  have HE : Hid _ := eV
  clear eV
  go_enter_defers Tryz.func173, Tryz.ntmps173
  go_wp2_with fail
  rw [← HE.out]
  clear HE
  refine (getId_bk l0 l1 g v x rest V (H.out.1.kept HV.out.1 (fun h => h) (fun _ _ h => h)) H.out.2.1 h0 h1).mono ?_
  rintro e w2 ⟨rfl, hr⟩
  have H2 : Hid (ReadsTo w g v ⟨0, rest, 0⟩ w2) := ReadsTo.next (HV.out.1.mono (fun _ _ h => h.elim)) (fun _ h => h) hr
  obtain ⟨v2, _, _, a3⟩ := hr
  have hrow := a3.heap HV.out.2.1 (by have := H.out.2.2; omega)
  have f0 := frozen_of_row w2 _ 0 _ _ hrow
  have c0 : w2.cell? ⟨w.heap.size + 1, 0, none⟩ = some (.string ⟨#[]⟩) := by rw [cell_of_row _ _ _ _ _ _ hrow]; rfl
  have f1 := frozen_of_row w2 _ 1 _ _ hrow
  have c1 : w2.cell? ⟨w.heap.size + 1, 1, none⟩ = some (.string ⟨#[]⟩) := by rw [cell_of_row _ _ _ _ _ _ hrow]; rfl
  clear a3
  go_wp2_with fail
  have hrow2 := (heap_setR (i := 1) (.string x.name) (heap_setR (i := 0) (.string x.scheme) hrow))
  have hk : Kept w2 ((w2.setCell ⟨w.heap.size + 1, 0, none⟩ (.string x.scheme)).setCell ⟨w.heap.size + 1, 1, none⟩ (.string x.name)) (fun k => k = w.heap.size + 1) := (((Kept.refl w2 (fun k => k = w.heap.size + 1)).setCell ⟨w.heap.size + 1, 0, none⟩ (.string x.scheme) (fun _ => rfl)).setCell ⟨w.heap.size + 1, 1, none⟩ (.string x.name) (fun _ => rfl))
  have hrd : ReadsTo w g v ⟨0, rest, 0⟩ ((w2.setCell ⟨w.heap.size + 1, 0, none⟩ (.string x.scheme)).setCell ⟨w.heap.size + 1, 1, none⟩ (.string x.name)) := H2.out.aside hk (fun k e => by have := H.out.2.2; omega) (by have := H.out.2.2; omega) HVL.out
  refine leaves_cons (f := 176) (args := #[.pointer (some ⟨w.heap.size, 0, none⟩)]) (by simp) (by simp [go_sem]) ?_
  refine (getDefId _ _).mono ?_
  rintro e u' w'' ⟨rfl, rfl, rfl⟩
  refine ⟨.agg #[.string x.scheme, .string x.name], ?_, rfl, hrd⟩
  have hld := run_loadVar_row (P := Tryz.prog) _ _ _ 129 _ _ _ hrow2 Tryz.underlying129 rfl (by kernel_rfl)
  rw [resCell1 Tryz.results173]
  show ((asAddr (.pointer (some ⟨w.heap.size + 1, 0, none⟩))).run Tryz.prog _).andThen _ = _
  simp only [asAddr, Sem.run_pure, Result.andThen_ok, hld]
  rfl

theorem getDefEntry (p : Addr) (w : World) : CallsD Tryz.prog 175 #[.pointer (some p)] .returning w fun e u' w' => e = .returned (.tuple #[]) ∧ u' = .returning ∧ w' = w := by
  refine callsD_of_wpS Tryz.func175 rfl fun c₀ cs hu => ?_
  apply wpS_seq
  apply wpS_region
  simp [wpOpsS, go_sem, recoverD, hu, Tryz.ntmps175, Exit.thenS]
  refine wpS_cond (t := false) (by simp [Act.eval, Array.replicate]) ?_
  simp only [Bool.false_eq_true, if_false]
  refine wpS_of_wp (wp_skip ?_)
  cases c₀
  simp_all [bodyPostS, results, Tryz.results175]

set_option maxHeartbeats 1000000 in
theorem getOneEntry_bk (l0 l1 : Int) (g : Nat) (v : Value) (x : EnD) (rest : List Int) (w : World) (h : IsR w g v (enB x ++ rest) 0) (hb : Byts (enB x ++ rest)) (hp0 : -128 ≤ x.perms) (hp1 : x.perms ≤ 127) (h0 : x.id.scheme.size ≤ 24) (h1 : x.id.name.size ≤ 24) :
    Calls Tryz.prog 172 #[.pointer (some ⟨g, 0, none⟩), .func (.func 158) #[lay l0 l1] #[]] w fun e w' => e = .returned (.agg #[.int .i8 x.perms, .string x.id.scheme, .string x.id.name]) ∧ ReadsTo w g v ⟨0, rest, 0⟩ w' := by
  have H : Hid (IsR w g v (enB x ++ rest) 0 ∧ Byts (enB x ++ rest) ∧ g < w.heap.size) := ⟨h, hb, lt_of_block h.1⟩
  have HVL : Hid (∀ k, v.ownBlock = some k → k ≠ w.heap.size + 1) := fun k e => by have := h.2.lt (by simp [enB]) k e; omega
  clear h hb
  have hfn : ∀ w, (binOp .eql 171 (.func (.func 158) #[lay l0 l1] #[]) .nilFunc).run Tryz.prog w = .ok (.bool false) w := fun _ => by kernel_rfl
  obtain ⟨V, eV⟩ : ∃ V, V = (w.alloc (.cells #[.pointer (some ⟨g, 0, none⟩)] 109)).alloc (.cells #[.int .i8 0, .string ⟨#[]⟩, .string ⟨#[]⟩] 131) := ⟨_, rfl⟩
  have HV : Hid (Kept w V (fun _ => False) ∧ V.heap[w.heap.size + 1]? = some (.cells #[.int .i8 0, .string ⟨#[]⟩, .string ⟨#[]⟩] 131 (0, 0)) ∧ V.cell? ⟨w.heap.size, 0, none⟩ = some (.pointer (some ⟨g, 0, none⟩))) := by
    subst eV
    refine ⟨((Kept.refl w _).alloc _).alloc _, by have := heap_alloc_new (w.alloc (.cells #[.pointer (some ⟨g, 0, none⟩)] 109)) (.cells #[.int .i8 0, .string ⟨#[]⟩, .string ⟨#[]⟩] 131); simpa using this, ?_⟩
    rw [cell_of_row _ _ _ _ _ _ (show _ = some (Obj.cells #[.pointer (some ⟨g, 0, none⟩)] 109 (0, 0)) by rw [Below.heap_alloc _ _ _ (by simp)]; exact heap_alloc_new _ _)]
    rfl
  have HE : Hid _ := eV
  clear eV
  go_enter_defers Tryz.func172, Tryz.ntmps172
  go_wp2_with fail
  rw [← HE.out]
  clear HE
  refine (getEntry_bk l0 l1 g v x rest V (H.out.1.kept HV.out.1 (fun h => h) (fun _ _ h => h)) H.out.2.1 hp0 hp1 h0 h1).mono ?_
  rintro e w2 ⟨rfl, hr⟩
  have H2 : Hid (ReadsTo w g v ⟨0, rest, 0⟩ w2) := ReadsTo.next (HV.out.1.mono (fun _ _ h => h.elim)) (fun _ h => h) hr
  obtain ⟨v2, _, _, a3⟩ := hr
  have hrow := a3.heap HV.out.2.1 (by have := H.out.2.2; omega)
  have f0 := frozen_of_row w2 _ 0 _ _ hrow
  have c0 : w2.cell? ⟨w.heap.size + 1, 0, none⟩ = some (.int .i8 0) := by rw [cell_of_row _ _ _ _ _ _ hrow]; rfl
  have f1 := frozen_of_row w2 _ 1 _ _ hrow
  have c1 : w2.cell? ⟨w.heap.size + 1, 1, none⟩ = some (.string ⟨#[]⟩) := by rw [cell_of_row _ _ _ _ _ _ hrow]; rfl
  have f2 := frozen_of_row w2 _ 2 _ _ hrow
  have c2 : w2.cell? ⟨w.heap.size + 1, 2, none⟩ = some (.string ⟨#[]⟩) := by rw [cell_of_row _ _ _ _ _ _ hrow]; rfl
  clear a3
  go_wp2_with fail
  have hrow2 := (heap_setR (i := 2) (.string x.id.name) (heap_setR (i := 1) (.string x.id.scheme) (heap_setR (i := 0) (.int .i8 x.perms) hrow)))
  have hk : Kept w2 (((w2.setCell ⟨w.heap.size + 1, 0, none⟩ (.int .i8 x.perms)).setCell ⟨w.heap.size + 1, 1, none⟩ (.string x.id.scheme)).setCell ⟨w.heap.size + 1, 2, none⟩ (.string x.id.name)) (fun k => k = w.heap.size + 1) := ((((Kept.refl w2 (fun k => k = w.heap.size + 1)).setCell ⟨w.heap.size + 1, 0, none⟩ (.int .i8 x.perms) (fun _ => rfl)).setCell ⟨w.heap.size + 1, 1, none⟩ (.string x.id.scheme) (fun _ => rfl)).setCell ⟨w.heap.size + 1, 2, none⟩ (.string x.id.name) (fun _ => rfl))
  have hrd : ReadsTo w g v ⟨0, rest, 0⟩ (((w2.setCell ⟨w.heap.size + 1, 0, none⟩ (.int .i8 x.perms)).setCell ⟨w.heap.size + 1, 1, none⟩ (.string x.id.scheme)).setCell ⟨w.heap.size + 1, 2, none⟩ (.string x.id.name)) := H2.out.aside hk (fun k e => by have := H.out.2.2; omega) (by have := H.out.2.2; omega) HVL.out
  refine leaves_cons (f := 175) (args := #[.pointer (some ⟨w.heap.size, 0, none⟩)]) (by simp) (by simp [go_sem]) ?_
  refine (getDefEntry _ _).mono ?_
  rintro e u' w'' ⟨rfl, rfl, rfl⟩
  refine ⟨.agg #[.int .i8 x.perms, .string x.id.scheme, .string x.id.name], ?_, rfl, hrd⟩
  have hld := run_loadVar_row (P := Tryz.prog) _ _ _ 131 _ _ _ hrow2 Tryz.underlying131 rfl (by kernel_rfl)
  rw [resCell1 Tryz.results172]
  show ((asAddr (.pointer (some ⟨w.heap.size + 1, 0, none⟩))).run Tryz.prog _).andThen _ = _
  simp only [asAddr, Sem.run_pure, Result.andThen_ok, hld]
  rfl
end Go.Proofs.YtldcbabgommghaaGreatDoor

/- GetList of package pack at ids and at entries, at bytes that were laid. -/
namespace Go.Proofs.YtldcbabgommghaaGreatDoor
open Go.RowKit
set_option maxRecDepth 8000

theorem idsB_least (l : List IdD) : l.length ≤ (idsB l).length := by
  induction l with
  | nil => simp
  | cons x l ih =>
    have e : idsB (x :: l) = idB x ++ idsB l := by simp [idsB]
    have h1 : 1 ≤ (idB x).length := by simp [idB, txtB, be4]
    rw [e, List.length_append, List.length_cons]
    omega

theorem idsB_at (l : List IdD) (k : Nat) (h : k < l.length) (rest : List Int) : idsB (l.drop k) ++ rest = idB l[k] ++ (idsB (l.drop (k + 1)) ++ rest) := by
  unfold idsB
  rw [List.drop_eq_getElem_cons h, List.flatMap_cons, List.append_assoc]

set_option maxHeartbeats 2000000 in
theorem getListId_bk (l0 l1 : Int) (g : Nat) (v : Value) (l : List IdD) (rest : List Int) (most : Int) (w : World) (h : IsR w g v ((be4 l.length ++ idsB l) ++ rest) 0) (hb : Byts ((be4 l.length ++ idsB l) ++ rest)) (hm : (l.length : Int) ≤ most) (hl : l.length ≤ 1000) (hgd : ∀ x ∈ l, x.scheme.size ≤ 24 ∧ x.name.size ≤ 24) :
    Calls Tryz.prog 160 #[.pointer (some ⟨g, 0, none⟩), .int .i64 most, .func (.func 161) #[lay l0 l1] #[]] w fun e w' => ∃ u, e = .returned u ∧ w'.ownsRow w.heap.size 129 2 u (l.map IdD.cells).length (l.map IdD.cells).flatten ∧ ReadsTo w g v ⟨0, rest, 0⟩ w' := by
  rw [List.append_assoc] at h hb
  have ha : ahead (be4 l.length ++ (idsB l ++ rest)) = l.length := bk_ahead (by omega)
  have hle := idsB_least l
  have hlen : (be4 (l.length : Int) ++ (idsB l ++ rest)).length = 4 + ((idsB l).length + rest.length) := by rw [List.length_append, List.length_append]; rfl
  have H : Hid (IsR w g v (be4 l.length ++ (idsB l ++ rest)) 0 ∧ Byts (be4 l.length ++ (idsB l ++ rest)) ∧ g < w.heap.size ∧ ∀ k, v.ownBlock = some k → k < w.heap.size) := ⟨h, hb, lt_of_block h.1, h.2.lt (by simp [be4])⟩
  have HSZ := rSize_ok g v _ most w h hb (by omega) (by rw [ha]; omega) (by rw [ha]; exact hm) (by rw [ha, hlen]; omega)
  rw [ha] at HSZ
  have HSK := rSkip_ok g v _ 4 0 w h (by omega)
  have hsk : ReadsTo w g v ⟨0, idsB l ++ rest, 0⟩ (w.setCell ⟨g, 1, none⟩ (cutFrom v 4)) := by
    have := ReadsTo.skip (x := 0) (n := 4) h (by omega)
    rw [bk_drop (n := 4) rfl] at this
    exact this
  have HK : Hid _ := hsk
  have HGD : Hid _ := hgd
  obtain ⟨i0, hi, hz0, hz1, hz2⟩ := info_parts Tryz.infoId
  clear h hb hgd hsk ha hlen
  go_enter Tryz.func160, Tryz.ntmps160
  go_wp2_with fail
  refine HSZ.mono ?_
  clear HSZ
  rintro e w1 ⟨rfl, rfl⟩
  go_wp2_with fail
  refine HSK.mono ?_
  clear HSK
  rintro e w2 ⟨rfl, rfl⟩
  go_wp2_with fail
  go_loopw [9, 10] (fun lv i wr => ∃ k : Nat, k ≤ l.length ∧ i = .int .i64 k ∧ Hid (wr.ownsRow w1.heap.size 129 2 lv k ((l.take k).map IdD.cells).flatten ∧ ReadsTo w1 g v ⟨0, idsB (l.drop k) ++ rest, 0⟩ wr)) (fun _ i _ => l.length - (intOf i).toNat)
  case atStart => exact ⟨0, Nat.zero_le _, rfl, World.ownsRow_nil _ _ _ _, HK.out⟩
  case round =>
    clear HK
    obtain ⟨k, hk, rfl, HR⟩ := hrel
    obtain ⟨vk, a1, a2, a3⟩ := HR.out.2
    have HA : Hid (IsR wr g vk (idsB (l.drop k) ++ rest) 0 ∧ (∀ k, vk.ownBlock = some k → v.ownBlock = some k) ∧ Kept w1 wr (· = g) ∧ wr.ownsRow w1.heap.size 129 2 u9 k ((l.take k).map IdD.cells).flatten) := ⟨a1, a2, a3, HR.out.1⟩
    clear a1 a2 a3
    by_cases hlt : k < l.length
    · have HBT : Hid (Byts (idsB (l.drop k) ++ rest)) := fun x hx => H.out.2.1 x (by
        rcases List.mem_append.1 hx with hx | hx
        · refine List.mem_append.2 (.inr (List.mem_append.2 (.inl ?_)))
          unfold idsB at hx ⊢
          obtain ⟨y, hy, hxy⟩ := List.mem_flatMap.1 hx
          exact List.mem_flatMap.2 ⟨y, List.mem_of_mem_drop hy, hxy⟩
        · exact List.mem_append.2 (.inr (List.mem_append.2 (.inr hx))))
      have hat := idsB_at l k hlt rest
      have HRD := rReads_any g vk _ 0 wr HA.out.1
      have HON := getOneId_bk l0 l1 g vk l[k] (idsB (l.drop (k + 1)) ++ rest) wr (by rw [← hat]; exact HA.out.1) (by rw [← hat]; exact HBT.out) (HGD.out _ (List.getElem_mem hlt)).1 (HGD.out _ (List.getElem_mem hlt)).2
      have HN : Hid (((l.take (k + 1)).map IdD.cells).flatten = ((l.take k).map IdD.cells).flatten ++ l[k].cells) := by
        show _ = _
        rw [List.take_succ_eq_append_getElem hlt, List.map_append, List.flatten_append]
        simp
      have hsz := HA.out.2.2.1.size
      clear HR HBT hat
      generalize l[k] = x at *
      go_wp2_with fail
      refine HRD.mono ?_
      clear HRD
      rintro e w3 ⟨rfl, rfl⟩
      go_wp2_with fail
      refine HON.mono ?_
      clear HON
      rintro e w4 ⟨rfl, hr4⟩
      have HB4 : Hid (ReadsTo w1 g v ⟨0, idsB (l.drop (k + 1)) ++ rest, 0⟩ w4 ∧ w4.ownsRow w1.heap.size 129 2 u9 k ((l.take k).map IdD.cells).flatten) := by
        refine ⟨ReadsTo.next HA.out.2.2.1 HA.out.2.1 hr4, ?_⟩
        obtain ⟨_, _, _, b3⟩ := hr4
        exact ownsRow_kept HA.out.2.2.2 b3 (fun j e e' => by have h1 := (HA.out.2.2.2.lt j e).1; have h2 := H.out.2.2.1; omega)
      have hsz4 : w1.heap.size ≤ w4.heap.size := by obtain ⟨_, _, _, b3⟩ := HB4.out.1; exact b3.size
      clear hr4 HA
      generalize ((l.take k).map IdD.cells).flatten = ys at *
      go_wp2_with (at_builtin; refine wpList_append_own_at _ rfl _ _ 32 rfl w1.heap.size 129 i0 _ 2 32 Tryz.underlying32 hi hz0 hz1 hz2 rfl (by decide) _ _ _ rfl (ownsRow_kept HB4.out.2 ((Kept.refl w4 (fun _ => False)).alloc _) (fun _ _ h => h)) ⟨w4.heap.size, 0, none⟩ 1 1 x.cells rfl (by simp [IdD.cells]) ?c1 ?c2 ?c3 ?c4 ?c5 ?_)
      case c1 =>
        intro j u hj
        rw [addrAdd, Nat.zero_add, cell_of_row _ _ _ _ _ _ (heap_alloc_new _ _)]
        rw [← hj]
        simp [IdD.cells]
      case c2 =>
        intro u hu
        simp only [IdD.cells, List.mem_cons, List.not_mem_nil, or_false] at hu
        rcases hu with rfl | rfl <;> rfl
      case c3 => unfold maxLen; omega
      case c4 => omega
      case c5 => simp; omega
      intro v' w5 hown' hgrow _ _
      have HR5 : Hid (w5.ownsRow w1.heap.size 129 2 v' (k + 1) (ys ++ x.cells) ∧ ReadsTo w1 g v ⟨0, idsB (l.drop (k + 1)) ++ rest, 0⟩ w5) := by
        refine ⟨hown', ?_⟩
        obtain ⟨v5, b1, b2, b3⟩ := HB4.out.1
        have hka := (Kept.refl w4 (fun _ => False)).alloc (.cells x.cells.toArray 129)
        have hkg : Kept (w4.alloc (.cells x.cells.toArray 129)) w5 (fun j => u9.ownBlock = some j) := ⟨hgrow.os, hgrow.tape, hgrow.output, hgrow.size, fun j hj hn => hgrow.block j hj (fun e => hn e.symm)⟩
        have hkk := (hka.mono (S' := fun j => u9.ownBlock = some j) (fun _ _ h => h.elim)).trans hkg (fun _ _ h => h)
        have hlo : ∀ j, u9.ownBlock = some j → w1.heap.size ≤ j := fun j e => (HB4.out.2.lt j e).1
        exact ⟨v5, b1.kept hkk (fun e => by have := hlo g e; have := H.out.2.2.1; omega) (fun j e e' => by have h1 := hlo j e'; have h2 := H.out.2.2.2 j (b2 j e); omega), b2, b3.trans hkk (fun j hj e => by have := hlo j e; omega)⟩
      clear hown' hgrow HB4
      go_wp2_with fail
      go_roundw
      case rel => exact ⟨k + 1, by omega, by go_num, by rw [HN.out]; exact HR5.out.1, HR5.out.2⟩
      case measure => simp [intOf]; omega
    · obtain rfl : k = l.length := by omega
      have HRD := rReads_any g vk _ 0 wr HA.out.1
      have HF : Hid (wr.ownsRow w1.heap.size 129 2 u9 (l.map IdD.cells).length (l.map IdD.cells).flatten ∧ ReadsTo w1 g v ⟨0, rest, 0⟩ wr) := by
        have h1 := HR.out
        rw [List.take_length, List.drop_length] at h1
        rw [List.length_map]
        exact ⟨h1.1, by simpa [idsB] using h1.2⟩
      clear HR HA
      go_wp2_with fail
      refine HRD.mono ?_
      clear HRD
      rintro e w3 ⟨rfl, rfl⟩
      go_wp2_with fail
      go_ret
      exact ⟨_, rfl, HF.out⟩

theorem acB_least (l : List EnD) : l.length ≤ (acB l).length := by
  induction l with
  | nil => simp
  | cons x l ih =>
    have e : acB (x :: l) = enB x ++ acB l := by simp [acB]
    have h1 : 1 ≤ (enB x).length := by simp [enB]
    rw [e, List.length_append, List.length_cons]
    omega

theorem acB_at (l : List EnD) (k : Nat) (h : k < l.length) (rest : List Int) : acB (l.drop k) ++ rest = enB l[k] ++ (acB (l.drop (k + 1)) ++ rest) := by
  unfold acB
  rw [List.drop_eq_getElem_cons h, List.flatMap_cons, List.append_assoc]

set_option maxHeartbeats 2000000 in
theorem getListEntry_bk (l0 l1 : Int) (g : Nat) (v : Value) (l : List EnD) (rest : List Int) (most : Int) (w : World) (h : IsR w g v ((be4 l.length ++ acB l) ++ rest) 0) (hb : Byts ((be4 l.length ++ acB l) ++ rest)) (hm : (l.length : Int) ≤ most) (hl : l.length ≤ 1000) (hgd : ∀ x ∈ l, (-128 ≤ x.perms ∧ x.perms ≤ 127) ∧ x.id.scheme.size ≤ 24 ∧ x.id.name.size ≤ 24) :
    Calls Tryz.prog 157 #[.pointer (some ⟨g, 0, none⟩), .int .i64 most, .func (.func 158) #[lay l0 l1] #[]] w fun e w' => ∃ u, e = .returned u ∧ w'.ownsRow w.heap.size 131 3 u (l.map EnD.cells).length (l.map EnD.cells).flatten ∧ ReadsTo w g v ⟨0, rest, 0⟩ w' := by
  rw [List.append_assoc] at h hb
  have ha : ahead (be4 l.length ++ (acB l ++ rest)) = l.length := bk_ahead (by omega)
  have hle := acB_least l
  have hlen : (be4 (l.length : Int) ++ (acB l ++ rest)).length = 4 + ((acB l).length + rest.length) := by rw [List.length_append, List.length_append]; rfl
  have H : Hid (IsR w g v (be4 l.length ++ (acB l ++ rest)) 0 ∧ Byts (be4 l.length ++ (acB l ++ rest)) ∧ g < w.heap.size ∧ ∀ k, v.ownBlock = some k → k < w.heap.size) := ⟨h, hb, lt_of_block h.1, h.2.lt (by simp [be4])⟩
  have HSZ := rSize_ok g v _ most w h hb (by omega) (by rw [ha]; omega) (by rw [ha]; exact hm) (by rw [ha, hlen]; omega)
  rw [ha] at HSZ
  have HSK := rSkip_ok g v _ 4 0 w h (by omega)
  have hsk : ReadsTo w g v ⟨0, acB l ++ rest, 0⟩ (w.setCell ⟨g, 1, none⟩ (cutFrom v 4)) := by
    have := ReadsTo.skip (x := 0) (n := 4) h (by omega)
    rw [bk_drop (n := 4) rfl] at this
    exact this
  have HK : Hid _ := hsk
  have HGD : Hid _ := hgd
  obtain ⟨i0, hi, hz0, hz1, hz2⟩ := info_parts Tryz.infoEn
  clear h hb hgd hsk ha hlen
  go_enter Tryz.func157, Tryz.ntmps157
  go_wp2_with fail
  refine HSZ.mono ?_
  clear HSZ
  rintro e w1 ⟨rfl, rfl⟩
  go_wp2_with fail
  refine HSK.mono ?_
  clear HSK
  rintro e w2 ⟨rfl, rfl⟩
  go_wp2_with fail
  go_loopw [9, 10] (fun lv i wr => ∃ k : Nat, k ≤ l.length ∧ i = .int .i64 k ∧ Hid (wr.ownsRow w1.heap.size 131 3 lv k ((l.take k).map EnD.cells).flatten ∧ ReadsTo w1 g v ⟨0, acB (l.drop k) ++ rest, 0⟩ wr)) (fun _ i _ => l.length - (intOf i).toNat)
  case atStart => exact ⟨0, Nat.zero_le _, rfl, World.ownsRow_nil _ _ _ _, HK.out⟩
  case round =>
    clear HK
    obtain ⟨k, hk, rfl, HR⟩ := hrel
    obtain ⟨vk, a1, a2, a3⟩ := HR.out.2
    have HA : Hid (IsR wr g vk (acB (l.drop k) ++ rest) 0 ∧ (∀ k, vk.ownBlock = some k → v.ownBlock = some k) ∧ Kept w1 wr (· = g) ∧ wr.ownsRow w1.heap.size 131 3 u9 k ((l.take k).map EnD.cells).flatten) := ⟨a1, a2, a3, HR.out.1⟩
    clear a1 a2 a3
    by_cases hlt : k < l.length
    · have HBT : Hid (Byts (acB (l.drop k) ++ rest)) := fun x hx => H.out.2.1 x (by
        rcases List.mem_append.1 hx with hx | hx
        · refine List.mem_append.2 (.inr (List.mem_append.2 (.inl ?_)))
          unfold acB at hx ⊢
          obtain ⟨y, hy, hxy⟩ := List.mem_flatMap.1 hx
          exact List.mem_flatMap.2 ⟨y, List.mem_of_mem_drop hy, hxy⟩
        · exact List.mem_append.2 (.inr (List.mem_append.2 (.inr hx))))
      have hat := acB_at l k hlt rest
      have HRD := rReads_any g vk _ 0 wr HA.out.1
      have HON := getOneEntry_bk l0 l1 g vk l[k] (acB (l.drop (k + 1)) ++ rest) wr (by rw [← hat]; exact HA.out.1) (by rw [← hat]; exact HBT.out) (HGD.out _ (List.getElem_mem hlt)).1.1 (HGD.out _ (List.getElem_mem hlt)).1.2 (HGD.out _ (List.getElem_mem hlt)).2.1 (HGD.out _ (List.getElem_mem hlt)).2.2
      have HN : Hid (((l.take (k + 1)).map EnD.cells).flatten = ((l.take k).map EnD.cells).flatten ++ l[k].cells) := by
        show _ = _
        rw [List.take_succ_eq_append_getElem hlt, List.map_append, List.flatten_append]
        simp
      have hsz := HA.out.2.2.1.size
      clear HR HBT hat
      generalize l[k] = x at *
      go_wp2_with fail
      refine HRD.mono ?_
      clear HRD
      rintro e w3 ⟨rfl, rfl⟩
      go_wp2_with fail
      refine HON.mono ?_
      clear HON
      rintro e w4 ⟨rfl, hr4⟩
      have HB4 : Hid (ReadsTo w1 g v ⟨0, acB (l.drop (k + 1)) ++ rest, 0⟩ w4 ∧ w4.ownsRow w1.heap.size 131 3 u9 k ((l.take k).map EnD.cells).flatten) := by
        refine ⟨ReadsTo.next HA.out.2.2.1 HA.out.2.1 hr4, ?_⟩
        obtain ⟨_, _, _, b3⟩ := hr4
        exact ownsRow_kept HA.out.2.2.2 b3 (fun j e e' => by have h1 := (HA.out.2.2.2.lt j e).1; have h2 := H.out.2.2.1; omega)
      have hsz4 : w1.heap.size ≤ w4.heap.size := by obtain ⟨_, _, _, b3⟩ := HB4.out.1; exact b3.size
      clear hr4 HA
      generalize ((l.take k).map EnD.cells).flatten = ys at *
      go_wp2_with (at_builtin; refine wpList_append_own_at _ rfl _ _ 31 rfl w1.heap.size 131 i0 _ 3 40 Tryz.underlying31 hi hz0 hz1 hz2 rfl (by decide) _ _ _ rfl (ownsRow_kept HB4.out.2 ((Kept.refl w4 (fun _ => False)).alloc _) (fun _ _ h => h)) ⟨w4.heap.size, 0, none⟩ 1 1 x.cells rfl (by simp [EnD.cells]) ?c1 ?c2 ?c3 ?c4 ?c5 ?_)
      case c1 =>
        intro j u hj
        rw [addrAdd, Nat.zero_add, cell_of_row _ _ _ _ _ _ (heap_alloc_new _ _)]
        rw [← hj]
        simp [EnD.cells]
      case c2 =>
        intro u hu
        simp only [EnD.cells, List.mem_cons, List.not_mem_nil, or_false] at hu
        rcases hu with rfl | rfl | rfl <;> rfl
      case c3 => unfold maxLen; omega
      case c4 => omega
      case c5 => simp; omega
      intro v' w5 hown' hgrow _ _
      have HR5 : Hid (w5.ownsRow w1.heap.size 131 3 v' (k + 1) (ys ++ x.cells) ∧ ReadsTo w1 g v ⟨0, acB (l.drop (k + 1)) ++ rest, 0⟩ w5) := by
        refine ⟨hown', ?_⟩
        obtain ⟨v5, b1, b2, b3⟩ := HB4.out.1
        have hka := (Kept.refl w4 (fun _ => False)).alloc (.cells x.cells.toArray 131)
        have hkg : Kept (w4.alloc (.cells x.cells.toArray 131)) w5 (fun j => u9.ownBlock = some j) := ⟨hgrow.os, hgrow.tape, hgrow.output, hgrow.size, fun j hj hn => hgrow.block j hj (fun e => hn e.symm)⟩
        have hkk := (hka.mono (S' := fun j => u9.ownBlock = some j) (fun _ _ h => h.elim)).trans hkg (fun _ _ h => h)
        have hlo : ∀ j, u9.ownBlock = some j → w1.heap.size ≤ j := fun j e => (HB4.out.2.lt j e).1
        exact ⟨v5, b1.kept hkk (fun e => by have := hlo g e; have := H.out.2.2.1; omega) (fun j e e' => by have h1 := hlo j e'; have h2 := H.out.2.2.2 j (b2 j e); omega), b2, b3.trans hkk (fun j hj e => by have := hlo j e; omega)⟩
      clear hown' hgrow HB4
      go_wp2_with fail
      go_roundw
      case rel => exact ⟨k + 1, by omega, by go_num, by rw [HN.out]; exact HR5.out.1, HR5.out.2⟩
      case measure => simp [intOf]; omega
    · obtain rfl : k = l.length := by omega
      have HRD := rReads_any g vk _ 0 wr HA.out.1
      have HF : Hid (wr.ownsRow w1.heap.size 131 3 u9 (l.map EnD.cells).length (l.map EnD.cells).flatten ∧ ReadsTo w1 g v ⟨0, rest, 0⟩ wr) := by
        have h1 := HR.out
        rw [List.take_length, List.drop_length] at h1
        rw [List.length_map]
        exact ⟨h1.1, by simpa [acB] using h1.2⟩
      clear HR HA
      go_wp2_with fail
      refine HRD.mono ?_
      clear HRD
      rintro e w3 ⟨rfl, rfl⟩
      go_wp2_with fail
      go_ret
      exact ⟨_, rfl, HF.out⟩
end Go.Proofs.YtldcbabgommghaaGreatDoor
