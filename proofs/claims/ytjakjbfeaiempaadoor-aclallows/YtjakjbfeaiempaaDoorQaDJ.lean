/- What acl's Meets answers for ip, where both ids may be. -/
import Derived.Test.YtjakjbfeaiempaaDoorQbLJ
import Derived.Deep.RegionHeld
import Derived.Test.YtjakjbfeaiempaaDoorQaCJ
namespace Go.Proofs.YtjakjbfeaiempaaDoor
open Go.RowKit Go.Shelf
set_option maxRecDepth 8000

/-- Two ids in memory. -/
def PM (en wn : ByteArray) (w V : World) : Prop := V.heap[w.heap.size]? = some (.cells #[.string ipB, .string en] 37 (0, 0)) ∧ V.heap[w.heap.size + 1]? = some (.cells #[.string ipB, .string wn] 37 (0, 0)) ∧ Below w.heap.size w V

theorem PM.below {en wn : ByteArray} {w V V' : World} (h : PM en wn w V) (hB : Below V.heap.size V V') : PM en wn w V' :=
  ⟨(hB.block _ (lt_of_block h.1)).trans h.1, (hB.block _ (lt_of_block h.2.1)).trans h.2.1, h.2.2.trans (hB.mono h.2.2.size)⟩

theorem PM.cells {en wn : ByteArray} {w V : World} (h : PM en wn w V) : V.cell? ⟨w.heap.size, 0, none⟩ = some (.string ipB) ∧ V.cell? ⟨w.heap.size, 1, none⟩ = some (.string en) ∧ V.cell? ⟨w.heap.size + 1, 0, none⟩ = some (.string ipB) ∧ V.cell? ⟨w.heap.size + 1, 1, none⟩ = some (.string wn) :=
  ⟨cell_of_row V w.heap.size 0 _ _ _ h.1, cell_of_row V w.heap.size 1 _ _ _ h.1, cell_of_row V (w.heap.size + 1) 0 _ _ _ h.2.1, cell_of_row V (w.heap.size + 1) 1 _ _ _ h.2.1⟩

set_option maxHeartbeats 4000000 in
theorem meets_ip_yes (en wn : ByteArray) (hs : en.size ≤ 4294967296) (ht : wn.size ≤ 4294967296) (he : (rngD en.data.toList).isSome = true) (hc : (adD wn.data.toList).isSome = true) (w : World) :
    Calls Tryd.prog 48 #[.agg #[.string ipB, .string en], .agg #[.string ipB, .string wn]] w fun e w' => e = .returned (.bool (witD en.data.toList wn.data.toList)) ∧ Below w.heap.size w w' := by
  obtain ⟨bm, hbm⟩ : ∃ b, b = witD en.data.toList wn.data.toList := ⟨_, rfl⟩
  have HE : Hid (∀ V, Hid (PM en wn w V) → Calls Tryd.prog 37 #[.agg #[.string ipB, .string en]] V fun e w' => e = .returned (.bool true) ∧ Hid (PM en wn w w') ∧ w'.cell? ⟨w.heap.size, 0, none⟩ = some (.string ipB) ∧ w'.cell? ⟨w.heap.size, 1, none⟩ = some (.string en) ∧ w'.cell? ⟨w.heap.size + 1, 0, none⟩ = some (.string ipB) ∧ w'.cell? ⟨w.heap.size + 1, 1, none⟩ = some (.string wn)) := fun V hV => by
    rw [← he]
    exact (isOfEntry_ip en hs V).mono (fun e w' h => ⟨h.1, hV.out.below h.2, (hV.out.below h.2).cells⟩)
  have HC : Hid (∀ V, Hid (PM en wn w V) → Calls Tryd.prog 25 #[.agg #[.string ipB, .string wn]] V fun e w' => e = .returned (.bool true) ∧ Hid (PM en wn w w') ∧ w'.cell? ⟨w.heap.size, 0, none⟩ = some (.string ipB) ∧ w'.cell? ⟨w.heap.size, 1, none⟩ = some (.string en) ∧ w'.cell? ⟨w.heap.size + 1, 0, none⟩ = some (.string ipB) ∧ w'.cell? ⟨w.heap.size + 1, 1, none⟩ = some (.string wn)) := fun V hV => by
    rw [← hc]
    exact (isOfClient_ip wn ht V).mono (fun e w' h => ⟨h.1, hV.out.below h.2, (hV.out.below h.2).cells⟩)
  have HSo : Hid (∀ V, Hid (PM en wn w V) → Calls Tryd.prog 39 #[.agg #[.string ipB, .string en]] V fun e w' => ∃ c, e = .returned (.agg #[.string ipB, fnV 64, fnV 65, fn2 78 (c + 1)]) ∧ Hid (PM en wn w w' ∧ Cau c w' ∧ c + 6 ≤ w'.heap.size) ∧ w'.cell? ⟨w.heap.size, 0, none⟩ = some (.string ipB) ∧ w'.cell? ⟨w.heap.size, 1, none⟩ = some (.string en) ∧ w'.cell? ⟨w.heap.size + 1, 0, none⟩ = some (.string ipB) ∧ w'.cell? ⟨w.heap.size + 1, 1, none⟩ = some (.string wn)) := fun V hV =>
    (schemeOf_ip en V).mono (fun e w' ⟨c, h1, h2, h3, _, h5⟩ => ⟨c, h1, ⟨hV.out.below h2, h3, h5⟩, (hV.out.below h2).cells⟩)
  have HBy : Hid (∀ c V, Hid (PM en wn w V ∧ Cau c V ∧ c + 6 ≤ V.heap.size) → Calls Tryd.prog 78 #[.string en, .agg #[.string ipB, .string wn], .pointer (some ⟨c + 1, 0, none⟩), .pointer (some ⟨c + 1 + 1, 0, none⟩)] V fun e w' => e = .returned (.bool bm) ∧ Hid (PM en wn w w') ∧ w'.cell? ⟨w.heap.size, 0, none⟩ = some (.string ipB) ∧ w'.cell? ⟨w.heap.size, 1, none⟩ = some (.string en) ∧ w'.cell? ⟨w.heap.size + 1, 0, none⟩ = some (.string ipB) ∧ w'.cell? ⟨w.heap.size + 1, 1, none⟩ = some (.string wn)) := fun c V hV => by
    rw [hbm]
    exact (by1_ip en wn hs ht c V hV.out.2.1 hV.out.2.2).mono (fun e w' h => ⟨h.1, hV.out.1.below h.2, (hV.out.1.below h.2).cells⟩)
  rw [← hbm]
  clear he hc hbm hs ht
  have hP : PM en wn w ((w.alloc (.cells #[.string ipB, .string en] 37)).alloc (.cells #[.string ipB, .string wn] 37)) := ⟨by rw [Below.heap_alloc _ _ _ (by simp only [World.size_alloc]; omega)]; exact heap_alloc_new w _, alloc_newq (by simp only [World.size_alloc]), ((Below.refl _ w).alloc (Nat.le_refl _) _).alloc (by simp only [World.size_alloc]; omega) _⟩
  have hP2 : PM en wn w ((w.alloc (.cells #[.string ipB, .string en] 37)).alloc (.cells #[.string ipB, .string wn] 37)).drew := hP.below ⟨rfl, rfl, rfl, Nat.le_refl _, fun _ _ => rfl⟩
  obtain ⟨k0, k1, k2, k3⟩ := hP.cells
  have HW : Hid (PM en wn w ((w.alloc (.cells #[.string ipB, .string en] 37)).alloc (.cells #[.string ipB, .string wn] 37)).drew) := hP2
  have hfd := fun c W => (field_at c W).2.2
  clear hP hP2
  go_enter Tryd.func48, Tryd.ntmps48
  go_wp2_with fail
  go_region_held (fun w' => w'.cell? ⟨w.heap.size, 0, none⟩ = some (.string ipB) ∧ w'.cell? ⟨w.heap.size, 1, none⟩ = some (.string en) ∧ w'.cell? ⟨w.heap.size + 1, 0, none⟩ = some (.string ipB) ∧ w'.cell? ⟨w.heap.size + 1, 1, none⟩ = some (.string wn)) (first | exact ⟨a0, a1, a2, a3⟩ | exact ⟨b0, b1, b2, b3⟩ | exact ⟨g0, g1, g2, g3⟩ | exact ⟨t0, t1, t2, t3⟩ | go_keep) (first | (go_at_call 37; refine (HE.out _ HW).mono ?_; rintro e w3 ⟨rfl, hS1, a0, a1, a2, a3⟩) | (go_at_call 25; refine (HC.out _ hS1).mono ?_; rintro e w4 ⟨rfl, hS2, b0, b1, b2, b3⟩) | (go_at_call 39; refine (HSo.out _ hS2).mono ?_; rintro e w5 ⟨c, rfl, hS3, g0, g1, g2, g3⟩) | (go_at_call 78; refine (HBy.out _ _ hS3).mono ?_; rintro e w6 ⟨rfl, hS4, t0, t1, t2, t3⟩))
  all_goals go_wp2
  all_goals (go_ret; exact ⟨rfl, hS4.out.2.2⟩)

end Go.Proofs.YtjakjbfeaiempaaDoor

/- What name of the document's layer 6 answers. -/
namespace Go.Proofs.YtjakjbfeaiempaaDoor
open Go.RowKit
set_option maxRecDepth 8000

/-- A byte that a name may have. -/
def nmC (b : UInt8) : Bool := decide ((97 ≤ b.toNat ∧ b.toNat ≤ 122) ∨ (48 ≤ b.toNat ∧ b.toNat ≤ 57) ∨ b.toNat = 46 ∨ b.toNat = 95 ∨ b.toNat = 45)

def nmR (l : Bs) : Bool := l.all nmC && decide (1 ≤ l.length ∧ l.length ≤ 24)

theorem all_step {l : Bs} {k : Nat} (hk : k < l.length) : (l.take (k + 1)).all nmC = ((l.take k).all nmC && nmC (l.getD k 0)) := by
  rw [List.take_succ_eq_append_getElem hk, List.all_append, List.all_cons, List.all_nil, Bool.and_true, List.getD_eq_getElem?_getD, List.getElem?_eq_getElem hk]
  rfl

theorem all_bad {l : Bs} {k : Nat} (hk : k < l.length) (h : nmC (l.getD k 0) = false) : l.all nmC = false := by
  rw [List.all_eq_false]
  refine ⟨l[k], List.getElem_mem hk, ?_⟩
  rw [List.getD_eq_getElem?_getD, List.getElem?_eq_getElem hk] at h
  simp only [Option.getD_some] at h
  simp [h]

set_option maxHeartbeats 1000000 in
theorem name_any (s : ByteArray) (hl : s.size ≤ 4294967296) (w : World) :
    Calls Tryd.prog 41 #[.string s] w fun e w' => e = .returned (.bool (nmR s.data.toList)) ∧ w' = w := by
  have HS : Hid (s.size = s.data.toList.length) := size_list s
  obtain ⟨val, hval⟩ : ∃ val, val = nmR s.data.toList := ⟨_, rfl⟩
  rw [← hval]
  have HVal : Hid (val = nmR s.data.toList) := hval
  clear hval
  go_enter Tryd.func41, Tryd.ntmps41
  go_wp2
  go_loop [3] (fun vi => ∃ k : Nat, k ≤ s.size ∧ vi = .int .i64 (k : Int) ∧ Hid ((s.data.toList.take k).all nmC = true)) (fun vi => s.size - (intOf vi).toNat)
  case atStart => exact ⟨0, by omega, rfl, rfl⟩
  case round =>
    obtain ⟨k, hk, rfl, HA⟩ := hrel
    by_cases hlt : k < s.size
    · have hby := byteAt s k hlt
      have hst := all_step (l := s.data.toList) (k := k) (by rw [← HS.out]; exact hlt)
      rw [← hby] at hst
      have hn46 : ((s[k].toNat : Int) != 46) = decide (s[k].toNat ≠ 46) := by rw [Bool.eq_iff_iff, bne_iff_ne, decide_eq_true_eq]; omega
      have hn95 : ((s[k].toNat : Int) != 95) = decide (s[k].toNat ≠ 95) := by rw [Bool.eq_iff_iff, bne_iff_ne, decide_eq_true_eq]; omega
      have hn45 : ((s[k].toNat : Int) != 45) = decide (s[k].toNat ≠ 45) := by rw [Bool.eq_iff_iff, bne_iff_ne, decide_eq_true_eq]; omega
      by_cases hc : nmC s[k] = true
      · have HT : Hid ((s.data.toList.take (k + 1)).all nmC = true) := by show _ = _; rw [hst, HA.out, hc]; rfl
        have hc' : (97 ≤ s[k].toNat ∧ s[k].toNat ≤ 122) ∨ (48 ≤ s[k].toNat ∧ s[k].toNat ≤ 57) ∨ s[k].toNat = 46 ∨ s[k].toNat = 95 ∨ s[k].toNat = 45 := by simpa [nmC] using hc
        clear hc hst hby
        by_cases c1 : 97 ≤ s[k].toNat ∧ s[k].toNat ≤ 122
        · obtain ⟨c1a, c1b⟩ := c1
          clear hc'
          rw [decide_eq_true (show s[k].toNat ≠ 46 by omega)] at hn46
          rw [decide_eq_true (show s[k].toNat ≠ 45 by omega)] at hn45
          clear hn95 hn46 hn45
          go_wp2
          refine ⟨⟨k + 1, by omega, by simp, HT⟩, ?_⟩
          simp [intOf]; omega
        · by_cases c2 : 48 ≤ s[k].toNat ∧ s[k].toNat ≤ 57
          · obtain ⟨c2a, c2b⟩ := c2
            clear hc' hn46 hn95 hn45 c1
            have c5 : s[k].toNat < 97 := by omega
            go_wp2
            refine ⟨⟨k + 1, by omega, by simp, HT⟩, ?_⟩
            simp [intOf]; omega
          · by_cases e46 : s[k].toNat = 46
            · rw [decide_eq_false (show ¬ s[k].toNat ≠ 46 by omega)] at hn46
              have c5 : s[k].toNat < 48 := by omega
              clear hc' c1 c2 e46 hn95 hn45
              go_wp2
              refine ⟨⟨k + 1, by omega, by simp, HT⟩, ?_⟩
              simp [intOf]; omega
            · rw [decide_eq_true (show s[k].toNat ≠ 46 by omega)] at hn46
              by_cases e95 : s[k].toNat = 95
              · rw [decide_eq_false (show ¬ s[k].toNat ≠ 95 by omega)] at hn95
                have c5 : s[k].toNat < 97 := by omega
                have c6 : 57 < s[k].toNat := by omega
                clear hc' c1 c2 e95 hn45 e46
                go_wp2
                refine ⟨⟨k + 1, by omega, by simp, HT⟩, ?_⟩
                simp [intOf]; omega
              · rw [decide_eq_true (show s[k].toNat ≠ 95 by omega)] at hn95
                have e45 : s[k].toNat = 45 := by omega
                rw [decide_eq_false (show ¬ s[k].toNat ≠ 45 by omega)] at hn45
                have c5 : s[k].toNat < 48 := by omega
                clear hc' c1 c2 e95 e45 e46
                go_wp2
                refine ⟨⟨k + 1, by omega, by simp, HT⟩, ?_⟩
                simp [intOf]; omega
      · have HF : Hid (val = false) := by
          show _ = _
          rw [HVal.out, nmR, all_bad (k := k) (by rw [← HS.out]; exact hlt) (by rw [← hby]; simpa using hc)]
          rfl
        have hc' : ¬ ((97 ≤ s[k].toNat ∧ s[k].toNat ≤ 122) ∨ (48 ≤ s[k].toNat ∧ s[k].toNat ≤ 57) ∨ s[k].toNat = 46 ∨ s[k].toNat = 95 ∨ s[k].toNat = 45) := by simpa [nmC] using hc
        rw [decide_eq_true (show s[k].toNat ≠ 46 by omega)] at hn46
        rw [decide_eq_true (show s[k].toNat ≠ 95 by omega)] at hn95
        rw [decide_eq_true (show s[k].toNat ≠ 45 by omega)] at hn45
        clear hc hst hby
        by_cases c1 : 97 ≤ s[k].toNat
        · have c2 : 122 < s[k].toNat := by omega
          have d1 : decide ((s[k].toNat : Int) ≤ 122) = false := decide_eq_false (by omega)
          have d2 : decide ((s[k].toNat : Int) ≤ 57) = false := decide_eq_false (by omega)
          clear hc'
          go_wp2
          all_goals (go_ret; exact ⟨by rw [HF.out]; rfl, rfl⟩)
        · have c5 : s[k].toNat < 97 := by omega
          by_cases c3 : 48 ≤ s[k].toNat
          · have c4 : 57 < s[k].toNat := by omega
            have d2 : decide ((s[k].toNat : Int) ≤ 57) = false := decide_eq_false (by omega)
            clear hc' c1
            go_wp2
            all_goals (go_ret; exact ⟨by rw [HF.out]; rfl, rfl⟩)
          · have c6 : s[k].toNat < 48 := by omega
            clear hc' c1 c3 c5
            go_wp2
            all_goals (go_ret; exact ⟨by rw [HF.out]; rfl, rfl⟩)
    · have HE : Hid (val = (decide (1 ≤ s.size) && decide (s.size ≤ 24))) := by
        show _ = _
        have := HA.out
        rw [List.take_of_length_le (by rw [← HS.out]; omega)] at this
        rw [HVal.out, nmR, this, ← HS.out]
        simp
      by_cases s1 : 1 ≤ s.size
      · have HF : Hid (val = decide ((s.size : Int) ≤ 24)) := by
          show _ = _
          rw [HE.out, Bool.eq_iff_iff]
          simp only [Bool.and_eq_true, decide_eq_true_eq]
          omega
        go_wp2
        all_goals (go_ret; exact ⟨by rw [HF.out]; rfl, rfl⟩)
      · have HF : Hid (val = false) := by show _ = _; rw [HE.out]; simp [s1]
        go_wp2
        all_goals (go_ret; exact ⟨by rw [HF.out]; rfl, rfl⟩)

end Go.Proofs.YtjakjbfeaiempaaDoor
