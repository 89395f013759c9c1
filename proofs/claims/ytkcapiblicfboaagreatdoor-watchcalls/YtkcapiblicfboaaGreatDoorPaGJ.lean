/- What a board's Fire answers; whether lives of the statements of layer 18 is true. -/
import Derived.Test.YtkcapiblicfboaaGreatDoorWaMJ
import Derived.Test.YtkcapiblicfboaaGreatDoorWaFJ
import Derived.Test.YtkcapiblicfboaaGreatDoorPaUJ
namespace Go.Proofs.YtkcapiblicfboaaGreatDoor
open Go.RowKit Go.Shelf
set_option maxRecDepth 8000
set_option linter.unusedSimpArgs false

set_option maxHeartbeats 1000000 in
theorem fire_no {w : World} {b m : Nat} {v : Value} {l l' : List WaT} (c : ChT) (h : Bo w b m v l l') (hcl : c.2.size ≤ 4294967296) (hc : chOk c = false) :
    Calls Tryz.prog 18 #[.pointer (some ⟨b, 0, none⟩), .agg (chCs c)] w fun e w' => e = .returned (.slice none 0 0) ∧ Below w.heap.size w w' := by
  have hB : Below w.heap.size w (w.alloc (.cells (chCs c) 59)) := (Below.refl _ w).alloc (Nat.le_refl _) _
  have HN : Hid (Calls Tryz.prog 26 #[.pointer (some ⟨b, 0, none⟩)] (w.alloc (.cells (chCs c) 59)) fun e w' => e = .returned (.bool false) ∧ w' = (w.alloc (.cells (chCs c) 59))) := isNone_no (h.below hB)
  have HC : Hid (Calls Tryz.prog 50 #[.agg (chCs c)] (w.alloc (.cells (chCs c) 59)) fun e w' => e = .returned (.bool false) ∧ Hid (Below w.heap.size w w')) := by
    refine (isChange_any c _ hcl).mono (fun e w' hh => ⟨?_, hB.trans (hh.2.mono hB.size)⟩)
    have := hh.1
    rw [hc] at this
    exact this
  clear hB h hc
  go_enter Tryz.func18, Tryz.ntmps18
  go_wp2_with fail
  refine Calls.mono HN.out ?_
  rintro e w1 ⟨rfl, rfl⟩
  clear HN
  go_wp2_with fail
  go_at_call 50
  refine Calls.mono HC.out ?_
  rintro e w2 ⟨rfl, HB⟩
  clear HC
  go_wp2
  all_goals (go_ret; exact ⟨rfl, HB.out⟩)

set_option maxHeartbeats 1000000 in
theorem fire_yes {w : World} {b m : Nat} {v : Value} {l : List WaT} (c : ChT) (h : Bo w b m v l l) (hl : l.length ≤ 1000) (hnd : l.Nodup) (hkk : ∀ x ∈ l, x.2.1 = 1 ∨ x.2.1 = 2 ∨ x.2.1 = 3 ∨ x.2.1 = 4) (hcl : c.2.size ≤ 4294967296) (hc : chOk c = true) :
    Calls Tryz.prog 18 #[.pointer (some ⟨b, 0, none⟩), .agg (chCs c)] w fun e w' => ∃ u, e = .returned u ∧ w'.ownsRow w.heap.size 77 5 u (l.filter (metB c)).length (fiFlat c (l.filter (metB c))) ∧ ∃ v', Bo w' b m v' (l.filter (stayB c)) (l.filter (stayB c)) ∧ Kept w w' (Ft b m v) ∧ v'.ownBlock = v.ownBlock := by
  have hB : Below w.heap.size w (w.alloc (.cells (chCs c) 59)) := (Below.refl _ w).alloc (Nat.le_refl _) _
  have hbx : (w.alloc (.cells (chCs c) 59)).heap[w.heap.size]? = some (.cells (chCs c) 59 (0, 0)) := heap_alloc_new w _
  have HN : Hid (Calls Tryz.prog 26 #[.pointer (some ⟨b, 0, none⟩)] (w.alloc (.cells (chCs c) 59)) fun e w' => e = .returned (.bool false) ∧ w' = (w.alloc (.cells (chCs c) 59))) := isNone_no (h.below hB)
  have HC : Hid (Calls Tryz.prog 50 #[.agg (chCs c)] (w.alloc (.cells (chCs c) 59)) fun e w' => e = .returned (.bool true) ∧ Hid (Below w.heap.size w w' ∧ w'.heap[w.heap.size]? = some (.cells (chCs c) 59 (0, 0)))) := by
    refine (isChange_any c _ hcl).mono (fun e w' hh => ⟨?_, hB.trans (hh.2.mono hB.size), box_later hbx hh.2⟩)
    have := hh.1
    rw [hc] at this
    exact this
  have HH : Hid (Bo w b m v l l ∧ l.length ≤ 1000 ∧ l.Nodup ∧ (∀ x ∈ l, x.2.1 = 1 ∨ x.2.1 = 2 ∨ x.2.1 = 3 ∨ x.2.1 = 4) ∧ c.2.size ≤ 4294967296) := ⟨h, hl, hnd, hkk, hcl⟩
  clear hB h hc hbx hl hnd hkk hcl
  go_enter Tryz.func18, Tryz.ntmps18
  go_wp2_with fail
  refine Calls.mono HN.out ?_
  rintro e w1 ⟨rfl, rfl⟩
  clear HN
  go_wp2_with fail
  go_at_call 50
  refine Calls.mono HC.out ?_
  rintro e w2 ⟨rfl, HB⟩
  clear HC
  have HM : Hid _ := meet_any c (HH.out.1.below HB.out.1) HH.out.2.1 HH.out.2.2.1 HH.out.2.2.2.1 HH.out.2.2.2.2
  have d0 := cell_of_row _ w.heap.size 0 _ _ _ HB.out.2
  have d1 := cell_of_row _ w.heap.size 1 _ _ _ HB.out.2
  have hz := lt_of_block HB.out.2
  go_wp2_with fail
  go_at_call 51
  refine Calls.mono HM.out ?_
  rintro e w3 ⟨u, rfl, ho3, h3, hk3⟩
  clear HM d0 d1 hz
  have HS : Hid _ := shrink_any h3 HH.out.2.1
  have H3 : Hid (w3.ownsRow w.heap.size 77 5 u (l.filter (metB c)).length (fiFlat c (l.filter (metB c))) ∧ Kept w w3 (Ft b m v) ∧ ∀ k, u.ownBlock = some k → ¬ Ft b m v k) := by
    have ho := row_lower ho3 HB.out.1.size
    refine ⟨ho, ((Below.kept HB.out.1).mono (fun k h1 h2 => by omega)).trans (S' := fun k => k = m) hk3 (fun _ _ h => .inr (.inl h)), own_apart HH.out.1 ho⟩
  obtain ⟨uo, ln, uc, huu⟩ : ∃ a n c, u = .slice a n c := by
    obtain ⟨a, c, e⟩ := rowS ho3
    exact ⟨a, _, c, e⟩
  subst huu
  clear ho3 h3 hk3 HB HH
  go_wp2_with fail
  go_at_call 52
  refine Calls.mono HS.out ?_
  rintro e w4 ⟨rfl, v', h4, hk4, hv4⟩
  rw [keep_filter] at h4
  have HE : Hid (w4.ownsRow w.heap.size 77 5 (.slice uo ln uc) (l.filter (metB c)).length (fiFlat c (l.filter (metB c))) ∧ ∃ v', Bo w4 b m v' (l.filter (stayB c)) (l.filter (stayB c)) ∧ Kept w w4 (Ft b m v) ∧ v'.ownBlock = v.ownBlock) := ⟨rowK H3.out.1 hk4 H3.out.2.2, v', h4, H3.out.2.1.trans hk4 (fun _ _ h => h), hv4⟩
  clear HS h4 hk4 hv4 H3
  go_wp2
  all_goals (go_ret; exact ⟨_, rfl, HE.out⟩)

end Go.Proofs.YtkcapiblicfboaaGreatDoor

/- What the document's Point and Good answer. -/
namespace Go.Proofs.YtkcapiblicfboaaGreatDoor
open Go.RowKit Go.Shelf
set_option maxRecDepth 8000

/-- A byte of a text as a number. -/
def bn (l : Bs) (k : Nat) : Nat := (l.getD k 0).toNat
theorem bn_lt (l : Bs) (k : Nat) : bn l k < 256 := (l.getD k 0).toNat_lt

/-- A byte that goes on with a code point. -/
def Goes (l : Bs) (k : Nat) : Prop := k < l.length ∧ 128 ≤ bn l k ∧ bn l k ≤ 191

/-- The number that the first j bytes make, the first one's part being c. -/
def accI (l : Bs) (c : Int) : Nat → Int
  | 0 => c
  | k + 1 => 64 * accI l c k + (bn l (k + 1) : Int) - 128

theorem cont_goes (l : Bs) (k : Nat) : (decide (k < l.length) && (l.getD k 0).toNat / 64 == 2) = true ↔ Goes l k := by
  unfold Goes bn
  simp only [Bool.and_eq_true, decide_eq_true_eq, beq_iff_eq]
  have := (l.getD k 0).toNat_lt
  omega

theorem dec_low (l : Bs) (h : bn l 0 < 128) : dec l = (bn l 0, 1) := by
  unfold bn at *
  unfold dec
  simp only
  rw [if_pos h]

theorem dec_bad (l : Bs) (h0 : 128 ≤ bn l 0) (h1 : bn l 0 < 192 ∨ 248 ≤ bn l 0) : dec l = (65533, 1) := by
  unfold bn at *
  unfold dec
  simp only
  have a1 : ¬ (l.getD 0 0).toNat / 32 = 6 := by omega
  have a2 : ¬ (l.getD 0 0).toNat / 16 = 14 := by omega
  have a3 : ¬ (l.getD 0 0).toNat / 8 = 30 := by omega
  rw [if_neg (by omega)]
  simp only [beq_eq_false_iff_ne.2 a1, beq_eq_false_iff_ne.2 a2, beq_eq_false_iff_ne.2 a3, Bool.false_and]
  simp

theorem dec_stop (l : Bs) (n : Nat) (hn : (n = 2 ∧ 192 ≤ bn l 0 ∧ bn l 0 < 224) ∨ (n = 3 ∧ 224 ≤ bn l 0 ∧ bn l 0 < 240) ∨ (n = 4 ∧ 240 ≤ bn l 0 ∧ bn l 0 < 248)) (j : Nat) (h1 : 1 ≤ j) (h2 : j < n) (hj : ¬ Goes l j) : dec l = (65533, 1) := by
  have hc := fun k => cont_goes l k
  unfold bn at hn
  unfold dec
  simp only
  rw [if_neg (by omega)]
  have hf : ∀ k, ¬ Goes l k → (decide (k < l.length) && (l.getD k 0).toNat / 64 == 2) = false := fun k h => by
    cases e : (decide (k < l.length) && (l.getD k 0).toNat / 64 == 2) with
    | true => exact absurd ((hc k).1 e) h
    | false => rfl
  rcases hn with ⟨rfl, g1, g2⟩ | ⟨rfl, g1, g2⟩ | ⟨rfl, g1, g2⟩
  · have : j = 1 := by omega
    subst this
    have a2 : ¬ (l.getD 0 0).toNat / 16 = 14 := by omega
    have a3 : ¬ (l.getD 0 0).toNat / 8 = 30 := by omega
    rw [hf 1 hj]
    simp only [beq_eq_false_iff_ne.2 a2, beq_eq_false_iff_ne.2 a3, Bool.false_and, Bool.and_false]
    simp
  · have a1 : ¬ (l.getD 0 0).toNat / 32 = 6 := by omega
    have a3 : ¬ (l.getD 0 0).toNat / 8 = 30 := by omega
    have : j = 1 ∨ j = 2 := by omega
    rcases this with rfl | rfl
    · rw [hf 1 hj]
      simp only [beq_eq_false_iff_ne.2 a1, beq_eq_false_iff_ne.2 a3, Bool.false_and, Bool.and_false]
      simp
    · rw [hf 2 hj]
      simp only [beq_eq_false_iff_ne.2 a1, beq_eq_false_iff_ne.2 a3, Bool.false_and, Bool.and_false]
      simp
  · have a1 : ¬ (l.getD 0 0).toNat / 32 = 6 := by omega
    have a2 : ¬ (l.getD 0 0).toNat / 16 = 14 := by omega
    have : j = 1 ∨ j = 2 ∨ j = 3 := by omega
    rcases this with rfl | rfl | rfl
    · rw [hf 1 hj]
      simp only [beq_eq_false_iff_ne.2 a1, beq_eq_false_iff_ne.2 a2, Bool.false_and, Bool.and_false]
      simp
    · rw [hf 2 hj]
      simp only [beq_eq_false_iff_ne.2 a1, beq_eq_false_iff_ne.2 a2, Bool.false_and, Bool.and_false]
      simp
    · rw [hf 3 hj]
      simp only [beq_eq_false_iff_ne.2 a1, beq_eq_false_iff_ne.2 a2, Bool.false_and, Bool.and_false]
      simp

theorem dec_goes (l : Bs) (n : Nat) (c0 least : Int) (hn : (n = 2 ∧ 192 ≤ bn l 0 ∧ bn l 0 < 224 ∧ c0 = bn l 0 - 192 ∧ least = 128) ∨ (n = 3 ∧ 224 ≤ bn l 0 ∧ bn l 0 < 240 ∧ c0 = bn l 0 - 224 ∧ least = 2048) ∨ (n = 4 ∧ 240 ≤ bn l 0 ∧ bn l 0 < 248 ∧ c0 = bn l 0 - 240 ∧ least = 65536))
    (hg : ∀ j, 1 ≤ j → j < n → Goes l j) :
    ((accI l c0 (n - 1) < least ∨ accI l c0 (n - 1) > 1114111 ∨ (55296 ≤ accI l c0 (n - 1) ∧ accI l c0 (n - 1) ≤ 57343)) → dec l = (65533, 1)) ∧
    (¬ (accI l c0 (n - 1) < least ∨ accI l c0 (n - 1) > 1114111 ∨ (55296 ≤ accI l c0 (n - 1) ∧ accI l c0 (n - 1) ≤ 57343)) → ((dec l).1 : Int) = accI l c0 (n - 1) ∧ (dec l).2 = n) := by
  have hc := fun k (h : Goes l k) => (cont_goes l k).2 h
  unfold bn at hn
  rcases hn with ⟨rfl, g1, g2, rfl, rfl⟩ | ⟨rfl, g1, g2, rfl, rfl⟩ | ⟨rfl, g1, g2, rfl, rfl⟩
  · have d1 := hg 1 (by omega) (by omega)
    have e1 := hc 1 d1
    unfold Goes at d1
    have a1 : ((l.getD 0 0).toNat / 32 == 6) = true := by rw [beq_iff_eq]; omega
    have ha : accI l ((l.getD 0 0).toNat - 192) (2 - 1) = (((l.getD 0 0).toNat % 32 * 64 + (l.getD 1 0).toNat % 64 : Nat) : Int) := by
      unfold bn at d1; simp only [accI, bn, Nat.zero_add]; omega
    rw [ha]
    unfold dec
    simp only [e1, a1, Bool.and_self, if_true]
    rw [if_neg (by omega)]
    constructor
    · intro h
      rw [if_neg (by omega)]
    · intro h
      rw [if_pos (by omega)]
      exact ⟨rfl, rfl⟩
  · have d1 := hg 1 (by omega) (by omega)
    have d2 := hg 2 (by omega) (by omega)
    have e1 := hc 1 d1
    have e2 := hc 2 d2
    unfold Goes at d1 d2
    have a0 : ((l.getD 0 0).toNat / 32 == 6) = false := by rw [beq_eq_false_iff_ne]; omega
    have a1 : ((l.getD 0 0).toNat / 16 == 14) = true := by rw [beq_iff_eq]; omega
    have ha : accI l ((l.getD 0 0).toNat - 224) (3 - 1) = (((l.getD 0 0).toNat % 16 * 4096 + (l.getD 1 0).toNat % 64 * 64 + (l.getD 2 0).toNat % 64 : Nat) : Int) := by
      unfold bn at d1 d2; simp only [accI, bn, Nat.zero_add, Nat.reduceAdd]; omega
    rw [ha]
    unfold dec
    simp only [e1, e2, a0, a1, Bool.and_self, Bool.false_and, if_true, Bool.false_eq_true, if_false]
    rw [if_neg (by omega)]
    generalize (l.getD 0 0).toNat % 16 * 4096 + (l.getD 1 0).toNat % 64 * 64 + (l.getD 2 0).toNat % 64 = c
    constructor
    · intro h
      rw [if_neg]
      simp only [Utf8.valid, Bool.and_eq_true, Bool.or_eq_true, decide_eq_true_eq]
      omega
    · intro h
      rw [if_pos]
      · exact ⟨rfl, rfl⟩
      · simp only [Utf8.valid, Bool.and_eq_true, Bool.or_eq_true, decide_eq_true_eq]
        omega
  · have d1 := hg 1 (by omega) (by omega)
    have d2 := hg 2 (by omega) (by omega)
    have d3 := hg 3 (by omega) (by omega)
    have e1 := hc 1 d1
    have e2 := hc 2 d2
    have e3 := hc 3 d3
    unfold Goes at d1 d2 d3
    have a0 : ((l.getD 0 0).toNat / 32 == 6) = false := by rw [beq_eq_false_iff_ne]; omega
    have a1 : ((l.getD 0 0).toNat / 16 == 14) = false := by rw [beq_eq_false_iff_ne]; omega
    have a2 : ((l.getD 0 0).toNat / 8 == 30) = true := by rw [beq_iff_eq]; omega
    have ha : accI l ((l.getD 0 0).toNat - 240) (4 - 1) = (((l.getD 0 0).toNat % 8 * 262144 + (l.getD 1 0).toNat % 64 * 4096 + (l.getD 2 0).toNat % 64 * 64 + (l.getD 3 0).toNat % 64 : Nat) : Int) := by
      unfold bn at d1 d2 d3; simp only [accI, bn, Nat.zero_add, Nat.reduceAdd]; omega
    rw [ha]
    unfold dec
    simp only [e1, e2, e3, a0, a1, a2, Bool.and_self, Bool.false_and, if_true, Bool.false_eq_true, if_false]
    rw [if_neg (by omega)]
    generalize (l.getD 0 0).toNat % 8 * 262144 + (l.getD 1 0).toNat % 64 * 4096 + (l.getD 2 0).toNat % 64 * 64 + (l.getD 3 0).toNat % 64 = c
    constructor
    · intro h
      rw [if_neg]
      simp only [Utf8.valid, Bool.and_eq_true, Bool.or_eq_true, decide_eq_true_eq]
      omega
    · intro h
      rw [if_pos]
      · exact ⟨rfl, rfl⟩
      · simp only [Utf8.valid, Bool.and_eq_true, Bool.or_eq_true, decide_eq_true_eq]
        omega

end Go.Proofs.YtkcapiblicfboaaGreatDoor

/- What the document's Point answers: the first code point at a place, or none. -/
namespace Go.Proofs.YtkcapiblicfboaaGreatDoor
open Go.RowKit Go.Shelf
set_option maxRecDepth 8000

theorem bn_at (s : ByteArray) (p k : Nat) (h : p + k < s.size) : (s[p + k]'h).toNat = bn (s.data.toList.drop p) k := by
  unfold bn
  rw [byte_at, List.getD_eq_getElem?_getD, List.getD_eq_getElem?_getD, List.getElem?_drop]

def pointPost (L : Bs) (w : World) (e : Ending) (w' : World) : Prop :=
  (∃ c : Int, e = .returned (.tuple #[.int .i64 c, .int .i64 ((dec L).2 : Int)]) ∧ (c = ((dec L).1 : Int) ∨ (c = -1 ∧ (dec L).1 = 65533))) ∧ w' = w

theorem point_none {L : Bs} {w : World} (h : dec L = (65533, 1)) : pointPost L w (.returned (.tuple #[.int .i64 (-1), .int .i64 1])) w := by
  refine ⟨⟨-1, ?_, .inr ⟨rfl, by rw [h]⟩⟩, rfl⟩
  rw [h]; rfl

end Go.Proofs.YtkcapiblicfboaaGreatDoor
