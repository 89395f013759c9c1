/- What acl's isOfEntry and isOfClient answer for ip. -/
import Derived.Test.YtapnaknbidmnmaaDoorQbJJ
import Derived.Deep.RegionHeld
import Derived.Test.YtapnaknbidmnmaaDoorQaCJ
namespace Go.Proofs.YtapnaknbidmnmaaDoor
open Go.RowKit Go.Shelf
set_option maxRecDepth 8000

/-- An id in memory; what lay below lies as it lay. -/
def PId (nm : ByteArray) (w V : World) : Prop := V.heap[w.heap.size]? = some (.cells #[.string ipB, .string nm] 26 (0, 0)) ∧ Below w.heap.size w V

theorem PId.below {nm : ByteArray} {w V V' : World} (h : PId nm w V) (hB : Below V.heap.size V V') : PId nm w V' :=
  ⟨(hB.block _ (lt_of_block h.1)).trans h.1, h.2.trans (hB.mono h.2.size)⟩

theorem field_at (c : Nat) (W : World) : (Instr.field 60 (.agg #[.string ipB, fnV 44, fnV 45, fn2 53 (c + 1)]) 1).run Tryd.prog W = .ok (fnV 44) W ∧ (Instr.field 60 (.agg #[.string ipB, fnV 44, fnV 45, fn2 53 (c + 1)]) 2).run Tryd.prog W = .ok (fnV 45) W ∧ (Instr.field 60 (.agg #[.string ipB, fnV 44, fnV 45, fn2 53 (c + 1)]) 3).run Tryd.prog W = .ok (fn2 53 (c + 1)) W :=
  ⟨by kernel_rfl, by kernel_rfl, by kernel_rfl⟩

set_option maxHeartbeats 1000000 in
theorem isOfEntry_ip (nm : ByteArray) (hs : nm.size ≤ 4294967296) (w : World) : Calls Tryd.prog 29 #[.agg #[.string ipB, .string nm]] w fun e w' => e = .returned (.bool (rngD nm.data.toList).isSome) ∧ Below w.heap.size w w' := by
  obtain ⟨b, hb⟩ : ∃ b, b = (rngD nm.data.toList).isSome := ⟨_, rfl⟩
  have HR : Hid (∀ V, Hid (PId nm w V) → Calls Tryd.prog 45 #[.string nm] V fun e w' => e = .returned (.bool b) ∧ Hid (PId nm w w')) := fun V hV => by
    rw [hb]
    exact (isRange_any nm hs V).mono (fun e w' h => ⟨h.1, hV.out.below h.2⟩)
  rw [← hb]
  clear hb
  have HS : Hid (∀ V, Hid (PId nm w V) → Calls Tryd.prog 31 #[.agg #[.string ipB, .string nm]] V fun e w' => ∃ c, e = .returned (.agg #[.string ipB, fnV 44, fnV 45, fn2 53 (c + 1)]) ∧ Hid (PId nm w w') ∧ w'.cell? ⟨w.heap.size, 1, none⟩ = some (.string nm)) := fun V hV =>
    (schemeOf_ip nm V).mono (fun e w' ⟨c, h1, h2, _⟩ => ⟨c, h1, hV.out.below h2, cell_of_row w' w.heap.size 1 _ _ _ (hV.out.below h2).1⟩)
  have hP : PId nm w (w.alloc (.cells #[.string ipB, .string nm] 26)) := ⟨heap_alloc_new w _, (Below.refl _ w).alloc (Nat.le_refl _) _⟩
  have HW : Hid (PId nm w (w.alloc (.cells #[.string ipB, .string nm] 26)).drew) := hP.below ⟨rfl, rfl, rfl, Nat.le_refl _, fun _ _ => rfl⟩
  have hfd := fun c W => (field_at c W).2.1
  clear hP
  go_enter Tryd.func29, Tryd.ntmps29
  go_wp2_with fail
  go_region_with (first | (go_at_call 31; refine (HS.out _ HW).mono ?_; rintro e w3 ⟨c, rfl, hS, j1⟩) | (go_at_call 45; refine (HR.out _ hS).mono ?_; rintro e w4 ⟨rfl, hS4⟩))
  all_goals go_wp2
  all_goals (go_ret; exact ⟨rfl, hS4.out.2⟩)

set_option maxHeartbeats 1000000 in
theorem isOfClient_ip (nm : ByteArray) (hs : nm.size ≤ 4294967296) (w : World) : Calls Tryd.prog 21 #[.agg #[.string ipB, .string nm]] w fun e w' => e = .returned (.bool (adD nm.data.toList).isSome) ∧ Below w.heap.size w w' := by
  obtain ⟨b, hb⟩ : ∃ b, b = (adD nm.data.toList).isSome := ⟨_, rfl⟩
  have HR : Hid (∀ V, Hid (PId nm w V) → Calls Tryd.prog 44 #[.string nm] V fun e w' => e = .returned (.bool b) ∧ Hid (PId nm w w')) := fun V hV => by
    rw [hb]
    exact (isAddress_any nm hs V).mono (fun e w' h => ⟨h.1, hV.out.below h.2⟩)
  rw [← hb]
  clear hb
  have HS : Hid (∀ V, Hid (PId nm w V) → Calls Tryd.prog 31 #[.agg #[.string ipB, .string nm]] V fun e w' => ∃ c, e = .returned (.agg #[.string ipB, fnV 44, fnV 45, fn2 53 (c + 1)]) ∧ Hid (PId nm w w') ∧ w'.cell? ⟨w.heap.size, 1, none⟩ = some (.string nm)) := fun V hV =>
    (schemeOf_ip nm V).mono (fun e w' ⟨c, h1, h2, _⟩ => ⟨c, h1, hV.out.below h2, cell_of_row w' w.heap.size 1 _ _ _ (hV.out.below h2).1⟩)
  have hP : PId nm w (w.alloc (.cells #[.string ipB, .string nm] 26)) := ⟨heap_alloc_new w _, (Below.refl _ w).alloc (Nat.le_refl _) _⟩
  have HW : Hid (PId nm w (w.alloc (.cells #[.string ipB, .string nm] 26)).drew) := hP.below ⟨rfl, rfl, rfl, Nat.le_refl _, fun _ _ => rfl⟩
  have hfd := fun c W => (field_at c W).1
  clear hP
  go_enter Tryd.func21, Tryd.ntmps21
  go_wp2_with fail
  go_region_with (first | (go_at_call 31; refine (HS.out _ HW).mono ?_; rintro e w3 ⟨c, rfl, hS, j1⟩) | (go_at_call 44; refine (HR.out _ hS).mono ?_; rintro e w4 ⟨rfl, hS4⟩))
  all_goals go_wp2
  all_goals (go_ret; exact ⟨rfl, hS4.out.2⟩)

end Go.Proofs.YtapnaknbidmnmaaDoor

/- What the function that acl.by makes for ip answers. -/
namespace Go.Proofs.YtapnaknbidmnmaaDoor
open Go.RowKit Go.Shelf
set_option maxRecDepth 8000

set_option maxHeartbeats 1000000 in
theorem by1_ip (nm wn : ByteArray) (hs : nm.size ≤ 4294967296) (ht : wn.size ≤ 4294967296) (c : Nat) (w : World) (hC : Cau c w) (hz : c + 6 ≤ w.heap.size) :
    Calls Tryd.prog 53 #[.string nm, .agg #[.string ipB, .string wn], .pointer (some ⟨c + 1, 0, none⟩), .pointer (some ⟨c + 2, 0, none⟩)] w fun e w' => e = .returned (.bool (witD nm.data.toList wn.data.toList)) ∧ Below w.heap.size w w' := by
  obtain ⟨b, hb⟩ : ∃ b, b = witD nm.data.toList wn.data.toList := ⟨_, rfl⟩
  have HW : Hid (∀ V, Calls Tryd.prog 47 #[.string nm, .string wn] V fun e w' => e = .returned (.bool b) ∧ Below V.heap.size V w') := fun V => by rw [hb]; exact isWithin_any nm wn hs ht V
  rw [← hb]
  clear hb
  have q0 : (w.alloc (.cells #[.string ipB, .string wn] 26)).heap[w.heap.size]? = some (.cells #[.string ipB, .string wn] 26 (0, 0)) := heap_alloc_new w _
  have q1 : (w.alloc (.cells #[.string ipB, .string wn] 26)).heap[c + 1]? = some (.cells #[.string ipB] 9 (0, 0)) := by rw [Below.heap_alloc _ _ _ (by omega)]; exact hC.2.1
  have q2 : (w.alloc (.cells #[.string ipB, .string wn] 26)).heap[c + 2]? = some (.cells #[fnV 47] 72 (0, 0)) := by rw [Below.heap_alloc _ _ _ (by omega)]; exact hC.2.2.1
  have c0 := cell_of_row _ w.heap.size 0 _ _ _ q0
  have c1 := cell_of_row _ w.heap.size 1 _ _ _ q0
  have c2 := cell_of_row _ (c + 1) 0 _ _ _ q1
  have c3 := cell_of_row _ (c + 2) 0 _ _ _ q2
  have d0 : (w.alloc (.cells #[.string ipB, .string wn] 26)).cell? ⟨w.heap.size, 0, none⟩ = some (.string ipB) := c0
  have d1 : (w.alloc (.cells #[.string ipB, .string wn] 26)).cell? ⟨w.heap.size, 1, none⟩ = some (.string wn) := c1
  have d2 : (w.alloc (.cells #[.string ipB, .string wn] 26)).cell? ⟨c + 1, 0, none⟩ = some (.string ipB) := c2
  have d3 : (w.alloc (.cells #[.string ipB, .string wn] 26)).cell? ⟨c + 2, 0, none⟩ = some (fnV 47) := c3
  have e2 : w.cell? ⟨c + 1, 0, none⟩ = some (.string ipB) := cell_of_row _ (c + 1) 0 _ _ _ hC.2.1
  have e3 : w.cell? ⟨c + 2, 0, none⟩ = some (fnV 47) := cell_of_row _ (c + 2) 0 _ _ _ hC.2.2.1
  have l1 : c + 1 < w.heap.size := by omega
  have l2 : c + 2 < w.heap.size := by omega
  have HB : Hid (Below w.heap.size w (w.alloc (.cells #[.string ipB, .string wn] 26))) := (Below.refl _ w).alloc (Nat.le_refl _) _
  have HL : Hid (w.heap.size ≤ (w.alloc (.cells #[.string ipB, .string wn] 26)).heap.size) := HB.out.size
  clear c0 c1 c2 c3 q0 q1 q2 hC
  go_enter Tryd.func53, Tryd.ntmps53
  go_wp2_with (go_at_call 47; refine (HW.out _).mono ?_; rintro e w4 ⟨rfl, hS4⟩)
  all_goals (go_ret; exact ⟨rfl, HB.out.trans (hS4.mono HL.out)⟩)

end Go.Proofs.YtapnaknbidmnmaaDoor

/- What acl's Meets answers for ip, where both ids may be. -/
namespace Go.Proofs.YtapnaknbidmnmaaDoor
open Go.RowKit Go.Shelf
set_option maxRecDepth 8000

/-- Two ids in memory. -/
def PM (en wn : ByteArray) (w V : World) : Prop := V.heap[w.heap.size]? = some (.cells #[.string ipB, .string en] 26 (0, 0)) ∧ V.heap[w.heap.size + 1]? = some (.cells #[.string ipB, .string wn] 26 (0, 0)) ∧ Below w.heap.size w V

theorem PM.below {en wn : ByteArray} {w V V' : World} (h : PM en wn w V) (hB : Below V.heap.size V V') : PM en wn w V' :=
  ⟨(hB.block _ (lt_of_block h.1)).trans h.1, (hB.block _ (lt_of_block h.2.1)).trans h.2.1, h.2.2.trans (hB.mono h.2.2.size)⟩

theorem PM.cells {en wn : ByteArray} {w V : World} (h : PM en wn w V) : V.cell? ⟨w.heap.size, 0, none⟩ = some (.string ipB) ∧ V.cell? ⟨w.heap.size, 1, none⟩ = some (.string en) ∧ V.cell? ⟨w.heap.size + 1, 0, none⟩ = some (.string ipB) ∧ V.cell? ⟨w.heap.size + 1, 1, none⟩ = some (.string wn) :=
  ⟨cell_of_row V w.heap.size 0 _ _ _ h.1, cell_of_row V w.heap.size 1 _ _ _ h.1, cell_of_row V (w.heap.size + 1) 0 _ _ _ h.2.1, cell_of_row V (w.heap.size + 1) 1 _ _ _ h.2.1⟩

set_option maxHeartbeats 4000000 in
theorem meets_ip_yes (en wn : ByteArray) (hs : en.size ≤ 4294967296) (ht : wn.size ≤ 4294967296) (he : (rngD en.data.toList).isSome = true) (hc : (adD wn.data.toList).isSome = true) (w : World) :
    Calls Tryd.prog 33 #[.agg #[.string ipB, .string en], .agg #[.string ipB, .string wn]] w fun e w' => e = .returned (.bool (witD en.data.toList wn.data.toList)) ∧ Below w.heap.size w w' := by
  obtain ⟨bm, hbm⟩ : ∃ b, b = witD en.data.toList wn.data.toList := ⟨_, rfl⟩
  have HE : Hid (∀ V, Hid (PM en wn w V) → Calls Tryd.prog 29 #[.agg #[.string ipB, .string en]] V fun e w' => e = .returned (.bool true) ∧ Hid (PM en wn w w') ∧ w'.cell? ⟨w.heap.size, 0, none⟩ = some (.string ipB) ∧ w'.cell? ⟨w.heap.size, 1, none⟩ = some (.string en) ∧ w'.cell? ⟨w.heap.size + 1, 0, none⟩ = some (.string ipB) ∧ w'.cell? ⟨w.heap.size + 1, 1, none⟩ = some (.string wn)) := fun V hV => by
    rw [← he]
    exact (isOfEntry_ip en hs V).mono (fun e w' h => ⟨h.1, hV.out.below h.2, (hV.out.below h.2).cells⟩)
  have HC : Hid (∀ V, Hid (PM en wn w V) → Calls Tryd.prog 21 #[.agg #[.string ipB, .string wn]] V fun e w' => e = .returned (.bool true) ∧ Hid (PM en wn w w') ∧ w'.cell? ⟨w.heap.size, 0, none⟩ = some (.string ipB) ∧ w'.cell? ⟨w.heap.size, 1, none⟩ = some (.string en) ∧ w'.cell? ⟨w.heap.size + 1, 0, none⟩ = some (.string ipB) ∧ w'.cell? ⟨w.heap.size + 1, 1, none⟩ = some (.string wn)) := fun V hV => by
    rw [← hc]
    exact (isOfClient_ip wn ht V).mono (fun e w' h => ⟨h.1, hV.out.below h.2, (hV.out.below h.2).cells⟩)
  have HSo : Hid (∀ V, Hid (PM en wn w V) → Calls Tryd.prog 31 #[.agg #[.string ipB, .string en]] V fun e w' => ∃ c, e = .returned (.agg #[.string ipB, fnV 44, fnV 45, fn2 53 (c + 1)]) ∧ Hid (PM en wn w w' ∧ Cau c w' ∧ c + 6 ≤ w'.heap.size) ∧ w'.cell? ⟨w.heap.size, 0, none⟩ = some (.string ipB) ∧ w'.cell? ⟨w.heap.size, 1, none⟩ = some (.string en) ∧ w'.cell? ⟨w.heap.size + 1, 0, none⟩ = some (.string ipB) ∧ w'.cell? ⟨w.heap.size + 1, 1, none⟩ = some (.string wn)) := fun V hV =>
    (schemeOf_ip en V).mono (fun e w' ⟨c, h1, h2, h3, _, h5⟩ => ⟨c, h1, ⟨hV.out.below h2, h3, h5⟩, (hV.out.below h2).cells⟩)
  have HBy : Hid (∀ c V, Hid (PM en wn w V ∧ Cau c V ∧ c + 6 ≤ V.heap.size) → Calls Tryd.prog 53 #[.string en, .agg #[.string ipB, .string wn], .pointer (some ⟨c + 1, 0, none⟩), .pointer (some ⟨c + 1 + 1, 0, none⟩)] V fun e w' => e = .returned (.bool bm) ∧ Hid (PM en wn w w') ∧ w'.cell? ⟨w.heap.size, 0, none⟩ = some (.string ipB) ∧ w'.cell? ⟨w.heap.size, 1, none⟩ = some (.string en) ∧ w'.cell? ⟨w.heap.size + 1, 0, none⟩ = some (.string ipB) ∧ w'.cell? ⟨w.heap.size + 1, 1, none⟩ = some (.string wn)) := fun c V hV => by
    rw [hbm]
    exact (by1_ip en wn hs ht c V hV.out.2.1 hV.out.2.2).mono (fun e w' h => ⟨h.1, hV.out.1.below h.2, (hV.out.1.below h.2).cells⟩)
  rw [← hbm]
  clear he hc hbm hs ht
  have hP : PM en wn w ((w.alloc (.cells #[.string ipB, .string en] 26)).alloc (.cells #[.string ipB, .string wn] 26)) := ⟨by rw [Below.heap_alloc _ _ _ (by simp only [World.size_alloc]; omega)]; exact heap_alloc_new w _, alloc_newq (by simp only [World.size_alloc]), ((Below.refl _ w).alloc (Nat.le_refl _) _).alloc (by simp only [World.size_alloc]; omega) _⟩
  have hP2 : PM en wn w ((w.alloc (.cells #[.string ipB, .string en] 26)).alloc (.cells #[.string ipB, .string wn] 26)).drew := hP.below ⟨rfl, rfl, rfl, Nat.le_refl _, fun _ _ => rfl⟩
  obtain ⟨k0, k1, k2, k3⟩ := hP.cells
  have HW : Hid (PM en wn w ((w.alloc (.cells #[.string ipB, .string en] 26)).alloc (.cells #[.string ipB, .string wn] 26)).drew) := hP2
  have hfd := fun c W => (field_at c W).2.2
  clear hP hP2
  go_enter Tryd.func33, Tryd.ntmps33
  go_wp2_with fail
  go_region_held (fun w' => w'.cell? ⟨w.heap.size, 0, none⟩ = some (.string ipB) ∧ w'.cell? ⟨w.heap.size, 1, none⟩ = some (.string en) ∧ w'.cell? ⟨w.heap.size + 1, 0, none⟩ = some (.string ipB) ∧ w'.cell? ⟨w.heap.size + 1, 1, none⟩ = some (.string wn)) (first | exact ⟨a0, a1, a2, a3⟩ | exact ⟨b0, b1, b2, b3⟩ | exact ⟨g0, g1, g2, g3⟩ | exact ⟨t0, t1, t2, t3⟩ | go_keep) (first | (go_at_call 29; refine (HE.out _ HW).mono ?_; rintro e w3 ⟨rfl, hS1, a0, a1, a2, a3⟩) | (go_at_call 21; refine (HC.out _ hS1).mono ?_; rintro e w4 ⟨rfl, hS2, b0, b1, b2, b3⟩) | (go_at_call 31; refine (HSo.out _ hS2).mono ?_; rintro e w5 ⟨c, rfl, hS3, g0, g1, g2, g3⟩) | (go_at_call 53; refine (HBy.out _ _ hS3).mono ?_; rintro e w6 ⟨rfl, hS4, t0, t1, t2, t3⟩))
  all_goals go_wp2
  all_goals (go_ret; exact ⟨rfl, hS4.out.2.2⟩)

end Go.Proofs.YtapnaknbidmnmaaDoor

/- What name of the document's layer 6 answers. -/
namespace Go.Proofs.YtapnaknbidmnmaaDoor
open Go.RowKit
set_option maxRecDepth 8000

/-- A byte that a name may have. -/
def nmC (b : UInt8) : Bool := decide ((97 ≤ b.toNat ∧ b.toNat ≤ 122) ∨ (48 ≤ b.toNat ∧ b.toNat ≤ 57) ∨ b.toNat = 46 ∨ b.toNat = 95 ∨ b.toNat = 45)

def nmR (l : Bs) : Bool := l.all nmC && decide (1 ≤ l.length ∧ l.length ≤ 24)

theorem all_step {l : Bs} {k : Nat} (hk : k < l.length) : (l.take (k + 1)).all nmC = ((l.take k).all nmC && nmC (l.getD k 0)) := by
  rw [List.take_succ_eq_append_getElem hk, List.all_append, List.all_cons, List.all_nil, Bool.and_true, List.getD_eq_getElem?_getD, List.getElem?_eq_getElem hk]
  rfl

theorem all_bad {l : Bs} {k : Nat} (hk : k < l.length) (h : nmC (l.getD k 0) = false) : l.all nmC = false := by
  rw [List.all_eq_false]
  refine ⟨l[k], List.getElem_mem hk, ?_⟩
  rw [List.getD_eq_getElem?_getD, List.getElem?_eq_getElem hk] at h
  simp only [Option.getD_some] at h
  simp [h]

end Go.Proofs.YtapnaknbidmnmaaDoor
