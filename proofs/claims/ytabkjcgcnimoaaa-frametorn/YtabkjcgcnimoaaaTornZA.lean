/- A part of the walk of FrameTorn. -/
import Derived.Test.YtabkjcgcnimoaaaTornH
namespace Go.Proofs.Ytabkjcgcnimoaaa
open Go.ChangeShapes Go.WideShapes Go.ChangeAt Go.RowKit
set_option maxRecDepth 8000
namespace frameTorn
set_option linter.unusedVariables false

set_option maxHeartbeats 2000000 in
theorem tornA (ao : Option Addr) (cap : Nat) (ps : List Pcd) (a1 : Int) (w : World) (h : SeesPs w (.slice ao ps.length cap) ps) (hne : goods ps = []) (h0 : a1 < 0) :
    Calls Try.prog 3 #[.slice ao ps.length cap, .int .i64 a1] w fun e w' => e = .returned (.bool true) ∧ Below w.heap.size w w' := by
  have HS : Hid (SeesPs w (.slice ao ps.length cap) ps) := h
  have hc0 : ps.length ≤ cap ∧ cap ≤ 9223372036854775807 := by
    obtain ⟨_, _, e, h1, h2, _⟩ := h
    simp at e
    obtain ⟨_, rfl⟩ := e
    unfold maxLen at h2
    omega
  obtain ⟨hc1, hc2⟩ := hc0
  have HE : Hid (goods ps = []) := hne
  have HT : Hid (Bodies [] []) := bodies_nil bodyLen_nil
  clear h hne
  have d0 : decide (a1 < 0) = true := by simp only [decide_eq_true_eq]; omega
  go_enter Try.func3, Try.ntmps3
  go_wp2_with fail
  refine (long3_any _ ps _ HS.out).mono ?_
  rintro e w0 ⟨r, rfl, hr, m0, rfl⟩
  cases r with
  | true =>
    go_wp2
    go_ret
    exact ⟨rfl, below_drewN (Below.refl _ _) _⟩
  | false =>
    have hbulk := hr rfl
    have HB0 : Hid (Below w.heap.size w (w.drewN m0)) := below_drewN (Below.refl _ _) _
    clear hr
    generalize w.drewN m0 = w0 at *
    go_wp2_with fail
    refine (lives_any _).mono ?_
    rintro e w1 ⟨rfl, hb1⟩
    have HB1 : Hid (Below w.heap.size w w1) := HB0.out.trans (hb1.mono HB0.out.size)
    clear hb1
    go_wp2_with fail
    refine (joined_any _ ps _ (sees_ps_below HS.out HB1.out) hbulk).mono ?_
    rintro e V ⟨va, vl, vat, rfl, hj, hbV⟩
    rw [HE.out] at hj
    have BV : Below w.heap.size w V := HB1.out.trans (hbV.mono HB1.out.size)
    obtain ⟨b1, b2, r2⟩ := row_form hj.lst
    obtain ⟨b3, b4, r3⟩ := row_form hj.beg
    have z2 : ([] : List Pcd).length = 0 := rfl
    rw [z2] at r2 r3
    subst r2
    subst r3
    have HV : Hid (Below w.heap.size w V) := BV
    have ho : Owns V w1.heap.size va [] := hj.all
    clear hj hbV BV z2
    rcases ho.2 with ⟨rfl, _⟩ | ⟨g, gc, cur, rfl, _, hblk, _, hgc, _⟩
    · have HSA : Hid (∀ wx, Below V.heap.size V wx → Sees wx (.slice none 0 0) [] ∧ Shaped (.slice none 0 0) [] ∧ ∀ k, (Value.slice none 0 0).ownBlock = some k → k < wx.heap.size) := fun wx _ => ⟨sees_nil wx, .inl ⟨rfl, rfl⟩, fun k hk => by simp [Value.ownBlock] at hk⟩
      clear ho
      go_wp2_with fail
      go_loopw [10, 11] (fun n e wr => ∃ m : Nat, n = .int .i64 0 ∧ e = .int .i64 0 ∧ wr = V.drewN m) (fun _ _ _ => 0)
      case atStart => exact ⟨0, rfl, rfl, rfl⟩
      case round =>
        obtain ⟨m, rfl, rfl, rfl⟩ := hrel
        go_wp2
        go_quiet (fail)
        go_wp2_with fail
        have D1 : Hid (Below V.heap.size V (V.drewN (m + nq))) := below_drewN (Below.refl _ _) _
        generalize V.drewN (m + nq) = X at *
        refine (through_torn _ [] [] _ (HSA.out X D1.out).1 (fun x hx => by simp at hx) (by simp) HT.out).mono ?_
        rintro e w5 ⟨it, b5, b6, b7, b8, rfl, _, _, _, hb5⟩
        have z4 : ([] : List (List Int)).length = 0 := rfl
        rw [z4]
        have D5 : Hid (Below V.heap.size V w5) := D1.out.trans (hb5.mono D1.out.size)
        clear hb5 z4
        go_wp2_with fail
        have D6 : Below V.heap.size V (w5.alloc (.cells #[.slice b5 0 b6, .slice b7 0 b8] 30)) := D5.out.alloc D5.out.size _
        refine (whole_torn _ [] [] _ (HSA.out _ D6).1 (HSA.out _ D6).2.1 (HSA.out _ D6).2.2 (fun x hx => by simp at hx) (by simp) HT.out).mono ?_
        rintro e w7 ⟨rfl, hb7⟩
        have p0 : ((pos [] : Nat) : Int) = 0 := rfl
        rw [p0]
        have D7 : Hid (Below V.heap.size V w7) := D6.trans (hb7.mono D6.size)
        have hbx : w7.heap[w5.heap.size]? = some (.cells #[.slice b5 0 b6, .slice b7 0 b8] 30 (0, 0)) := by
          rw [hb7.block _ (by simp)]; exact heap_alloc_new _ _
        have cx0 : w7.cell? ⟨w5.heap.size, 0, none⟩ = some (.slice b5 0 b6) := cell_of_row w7 w5.heap.size 0 _ _ _ hbx
        clear hb7 D6 hbx p0
        go_wp2_with fail
        go_loopw [14] (fun i wr => i = .int .i64 0 ∧ wr = w7) (fun _ _ => 0)
        case atStart => exact ⟨rfl, rfl⟩
        case round =>
          obtain ⟨rfl, rfl⟩ := hrel
          go_wp2_with fail
          refine (one_torn _ [] [] _ (HSA.out _ D7.out).1 (fun x hx => by simp at hx) (by simp) HT.out).mono ?_
          rintro e w8 ⟨p1, p2, p3, r, rfl, hr, hb8⟩
          have e1 : r = 30 := by rw [hr]; simp
          have HE8 : Hid (Below w.heap.size w w8) := (HV.out.trans (D7.out.mono HV.out.size)).trans (hb8.mono (HV.out.trans (D7.out.mono HV.out.size)).size)
          clear hr hb8
          subst e1
          go_wp2
          go_ret
          exact ⟨rfl, HE8.out⟩
    · have HSA : Hid (∀ wx, Below V.heap.size V wx → Sees wx (.slice (some ⟨g, 0, none⟩) 0 gc) [] ∧ Shaped (.slice (some ⟨g, 0, none⟩) 0 gc) [] ∧ ∀ k, (Value.slice (some ⟨g, 0, none⟩) 0 gc).ownBlock = some k → k < wx.heap.size) := fun wx hb => ⟨⟨_, gc, rfl, Nat.zero_le _, hgc, fun e => by simp at e, .inl rfl⟩, .inr ⟨g, 0, gc, rfl⟩, fun k hk => by
        simp [Value.ownBlock] at hk
        subst hk
        have := lt_of_block hblk
        have := hb.size
        omega⟩
      have hgc2 : gc ≤ 9223372036854775807 := by unfold maxLen at hgc; omega
      have z3 : ([] : List Int).length = 0 := rfl
      rw [z3]
      clear ho hblk hgc z3
      go_wp2_with fail
      go_loopw [10, 11] (fun n e wr => ∃ m : Nat, n = .int .i64 0 ∧ e = .int .i64 0 ∧ wr = V.drewN m) (fun _ _ _ => 0)
      case atStart => exact ⟨0, rfl, rfl, rfl⟩
      case round =>
        obtain ⟨m, rfl, rfl, rfl⟩ := hrel
        go_wp2
        go_quiet (fail)
        go_wp2_with fail
        have D1 : Hid (Below V.heap.size V (V.drewN (m + nq))) := below_drewN (Below.refl _ _) _
        generalize V.drewN (m + nq) = X at *
        refine (through_torn _ [] [] _ (HSA.out X D1.out).1 (fun x hx => by simp at hx) (by simp) HT.out).mono ?_
        rintro e w5 ⟨it, b5, b6, b7, b8, rfl, _, _, _, hb5⟩
        have z4 : ([] : List (List Int)).length = 0 := rfl
        rw [z4]
        have D5 : Hid (Below V.heap.size V w5) := D1.out.trans (hb5.mono D1.out.size)
        clear hb5 z4
        go_wp2_with fail
        have D6 : Below V.heap.size V (w5.alloc (.cells #[.slice b5 0 b6, .slice b7 0 b8] 30)) := D5.out.alloc D5.out.size _
        refine (whole_torn _ [] [] _ (HSA.out _ D6).1 (HSA.out _ D6).2.1 (HSA.out _ D6).2.2 (fun x hx => by simp at hx) (by simp) HT.out).mono ?_
        rintro e w7 ⟨rfl, hb7⟩
        have p0 : ((pos [] : Nat) : Int) = 0 := rfl
        rw [p0]
        have D7 : Hid (Below V.heap.size V w7) := D6.trans (hb7.mono D6.size)
        have hbx : w7.heap[w5.heap.size]? = some (.cells #[.slice b5 0 b6, .slice b7 0 b8] 30 (0, 0)) := by
          rw [hb7.block _ (by simp)]; exact heap_alloc_new _ _
        have cx0 : w7.cell? ⟨w5.heap.size, 0, none⟩ = some (.slice b5 0 b6) := cell_of_row w7 w5.heap.size 0 _ _ _ hbx
        clear hb7 D6 hbx p0
        go_wp2_with fail
        go_loopw [14] (fun i wr => i = .int .i64 0 ∧ wr = w7) (fun _ _ => 0)
        case atStart => exact ⟨rfl, rfl⟩
        case round =>
          obtain ⟨rfl, rfl⟩ := hrel
          go_wp2_with fail
          refine (one_torn _ [] [] _ (HSA.out _ D7.out).1 (fun x hx => by simp at hx) (by simp) HT.out).mono ?_
          rintro e w8 ⟨p1, p2, p3, r, rfl, hr, hb8⟩
          have e1 : r = 30 := by rw [hr]; simp
          have HE8 : Hid (Below w.heap.size w w8) := (HV.out.trans (D7.out.mono HV.out.size)).trans (hb8.mono (HV.out.trans (D7.out.mono HV.out.size)).size)
          clear hr hb8
          subst e1
          go_wp2
          go_ret
          exact ⟨rfl, HE8.out⟩

end frameTorn
end Go.Proofs.Ytabkjcgcnimoaaa
