/- What PathRises of the statements of layer 5 does: the walk. -/
import Derived.Test.YtgaemldkpfbomabDoorPcB
import Derived.Test.YtgaemldkpfbomabDoorPaV
import Derived.Test.YtgaemldkpfbomabDoorPaS
namespace Go.Proofs.YtgaemldkpfbomabDoor
open Go.RowKit Go.Shelf
set_option maxRecDepth 8000
namespace pathRises
set_option linter.unusedVariables false

theorem seqD_pad (n : Int) (h0 : 0 ≤ n) (h1 : n ≤ 2147483647) : seqD n = padk 10 n.natAbs := by
  unfold seqD
  rw [if_neg (by omega)]
  exact (dec_pad 9 n.natAbs (by omega)).2

theorem ahead_less {s t : ByteArray} (h : Ahead s.data.toList t.data.toList) : Op.bytesLess s.toList t.toList = true := by
  rw [toList_eq, toList_eq]
  obtain ⟨c, x, y, r1, r2, e1, e2, hxy⟩ := h
  rw [e1, e2]
  exact less_ahead c x y r1 r2 hxy

/-- What the two answers are. -/
theorem both (p : ByteArray) (a b : Int) (ha : 0 ≤ a) (hab : a < b) (hb : b ≤ 2147483647) (hl : p.size ≤ 2147483632) :
    (∃ s t r : ByteArray, checkedV (p.data.toList ++ seqD a) = .tuple #[.string s, .int .i64 0] ∧ checkedV (p.data.toList ++ seqD b) = .tuple #[.string t, .int .i64 0] ∧
      Op.bytesLess s.toList t.toList = true ∧ s.size = p.size + 10 ∧ t.size = p.size + 10 ∧ isPb s.data.toList = true ∧ bytesV (parL s.data.toList) = .string r ∧ bytesV (parL t.data.toList) = .string r) ∨
    (checkedV (p.data.toList ++ seqD a) = .tuple #[.string ⟨#[]⟩, .int .i64 50] ∧ checkedV (p.data.toList ++ seqD b) = .tuple #[.string ⟨#[]⟩, .int .i64 50]) := by
  rw [seqD_pad a ha (by omega), seqD_pad b (by omega) hb]
  have h1 := padk_digs 10 a.natAbs
  have h2 := padk_digs 10 b.natAbs
  have l1 := padk_len 10 a.natAbs
  have l2 := padk_len 10 b.natAbs
  have hr := padk_rises 10 a.natAbs b.natAbs (by omega) (by omega)
  generalize padk 10 a.natAbs = x at h1 l1 hr ⊢
  generalize padk 10 b.natAbs = y at h2 l2 hr ⊢
  have hz := size_list p
  have x0 : x ≠ [] := fun e => by rw [e] at l1; simp at l1
  have y0 : y ≠ [] := fun e => by rw [e] at l2; simp at l2
  have px : (p.data.toList ++ x).length ≤ 4294967296 := by simp only [List.length_append]; omega
  have py : (p.data.toList ++ y).length ≤ 4294967296 := by simp only [List.length_append]; omega
  cases h : isPb (p.data.toList ++ x) with
  | true =>
    have h' := isPb_digs h1 h2 (by omega) x0 _ px h
    left
    refine ⟨⟨(p.data.toList ++ x).toArray⟩, ⟨(p.data.toList ++ y).toArray⟩, ⟨(parL (p.data.toList ++ x)).toArray⟩, ?_, ?_, ?_, ?_, ?_, ?_, ?_, ?_⟩
    · unfold checkedV; rw [h, if_pos rfl, bytesV]
    · unfold checkedV; rw [h', if_pos rfl, bytesV]
    · exact ahead_less (by show Ahead (p.data.toList ++ x) (p.data.toList ++ y); exact hr.pre _)
    · rw [size_list]; show (p.data.toList ++ x).length = _; simp only [List.length_append]; omega
    · rw [size_list]; show (p.data.toList ++ y).length = _; simp only [List.length_append]; omega
    · exact h
    · rfl
    · show bytesV (parL (p.data.toList ++ y)) = _
      rw [← parL_digs h1 h2 (by omega) x0 _ px h, bytesV]
  | false =>
    have h' : isPb (p.data.toList ++ y) = false := by
      cases h' : isPb (p.data.toList ++ y) with
      | false => rfl
      | true => have := isPb_digs h2 h1 (by omega) y0 _ py h'; rw [h] at this; simp at this
    right
    unfold checkedV
    rw [h, h']
    exact ⟨rfl, rfl⟩

set_option maxHeartbeats 2000000 in
theorem walk (p : ByteArray) (a b : Int) (wa : (Lit.int .i32 a).wf = true) (wb : (Lit.int .i32 b).wf = true) (w : World) (ht : Tab w) : Calls Tryd.prog 3 #[.string p, .int .i32 a, .int .i32 b] w fun e w' => e = .returned (.bool true) ∧ Below w.heap.size w w' := by
  have HT : Hid (Tab w) := ht
  clear ht
  have ra : -2147483648 ≤ a ∧ a ≤ 2147483647 := by
    have m1 : IntKind.i32.min = -2147483648 := rfl
    have m2 : IntKind.i32.max = 2147483647 := rfl
    simp [Lit.wf] at wa; omega
  have rb : -2147483648 ≤ b ∧ b ≤ 2147483647 := by
    have m1 : IntKind.i32.min = -2147483648 := rfl
    have m2 : IntKind.i32.max = 2147483647 := rfl
    simp [Lit.wf] at wb; omega
  clear wa wb
  by_cases h : 2147483632 ≤ p.size
  · have hd := decide_eq_true h
    go_enter Tryd.func3, Tryd.ntmps3
    go_wp2_with fail
    refine (long_any _ _).mono ?_
    rintro e w1 ⟨rfl, rfl⟩
    rw [hd]
    go_wp2
    go_ret
    exact ⟨rfl, Below.refl _ _⟩
  · have hd := decide_eq_false h
    by_cases ha : a < 0
    · go_enter Tryd.func3, Tryd.ntmps3
      go_wp2_with fail
      refine (long_any _ _).mono ?_
      rintro e w1 ⟨rfl, rfl⟩
      rw [hd]
      go_wp2_with fail
      refine (lives_any _).mono ?_
      rintro e w2 ⟨rfl, k2⟩
      go_wp2
      go_ret
      exact ⟨rfl, k2⟩
    · by_cases hb : b < 0
      · go_enter Tryd.func3, Tryd.ntmps3
        go_wp2_with fail
        refine (long_any _ _).mono ?_
        rintro e w1 ⟨rfl, rfl⟩
        rw [hd]
        go_wp2_with fail
        refine (lives_any _).mono ?_
        rintro e w2 ⟨rfl, k2⟩
        go_wp2
        go_ret
        exact ⟨rfl, k2⟩
      · by_cases hab : a < b
        · have hpl : p.size ≤ 2147483632 := by omega
          rcases both p a b (by omega) hab rb.2 hpl with ⟨s, t, r, e1, e2, hlt, hs, ht, hp, hr1, hr2⟩ | ⟨e1, e2⟩
          · have H1 : Hid (∀ w, Tab w → Calls Tryd.prog 6 #[.string p, .int .i32 a] w fun e w' => e = .returned (.tuple #[.string s, .int .i64 0]) ∧ Below w.heap.size w w') := fun w ht => by
              have := seq_any p a ra.1 ra.2 (by omega) w ht; rw [e1] at this; exact this
            have H2 : Hid (∀ w, Tab w → Calls Tryd.prog 6 #[.string p, .int .i32 b] w fun e w' => e = .returned (.tuple #[.string t, .int .i64 0]) ∧ Below w.heap.size w w') := fun w ht => by
              have := seq_any p b rb.1 rb.2 (by omega) w ht; rw [e2] at this; exact this
            have H3 : Hid (∀ w, Calls Tryd.prog 7 #[.string s] w fun e w' => e = .returned (.tuple #[.int .i64 0, .int .i64 0]) ∧ Below w.heap.size w w') := fun w => by
              have := check_any s w (by omega); rw [hp, if_pos rfl] at this; exact this
            have H4 : Hid (∀ w, Calls Tryd.prog 8 #[.string s] w fun e w' => e = .returned (.string r) ∧ Below w.heap.size w w') := fun w => by
              have := parent_any s w (by omega); rw [hr1] at this; exact this
            have H5 : Hid (∀ w, Calls Tryd.prog 8 #[.string t] w fun e w' => e = .returned (.string r) ∧ Below w.heap.size w w') := fun w => by
              have := parent_any t w (by omega); rw [hr2] at this; exact this
            clear e1 e2 hp hr1 hr2
            go_enter Tryd.func3, Tryd.ntmps3
            go_wp2_with fail
            refine (long_any _ _).mono ?_
            rintro e w1 ⟨rfl, rfl⟩
            rw [hd]
            go_wp2_with fail
            refine (lives_any _).mono ?_
            rintro e w2 ⟨rfl, k2⟩
            have t2 := HT.out.later k2
            go_wp2_with fail
            refine (H1.out _ t2).mono ?_
            rintro e w3 ⟨rfl, k3⟩
            have t3 := t2.later k3
            have j3 := k2.trans (k3.mono k2.size)
            clear k2 k3 t2
            go_wp2_with fail
            refine (H2.out _ t3).mono ?_
            rintro e w4 ⟨rfl, k4⟩
            have j4 := j3.trans (k4.mono j3.size)
            clear k4 j3 t3
            go_wp2_with fail
            refine (H3.out _).mono ?_
            rintro e w5 ⟨rfl, k5⟩
            have j5 := j4.trans (k5.mono j4.size)
            clear k5 j4
            go_wp2_with fail
            refine (H4.out _).mono ?_
            rintro e w6 ⟨rfl, k6⟩
            have j6 := j5.trans (k6.mono j5.size)
            clear k6 j5
            go_wp2_with fail
            refine (H5.out _).mono ?_
            rintro e w7 ⟨rfl, k7⟩
            have HB : Hid (Below w1.heap.size w1 w7) := j6.trans (k7.mono j6.size)
            clear k7 j6
            go_wp2
            go_ret
            exact ⟨rfl, HB.out⟩
          · have H1 : Hid (∀ w, Tab w → Calls Tryd.prog 6 #[.string p, .int .i32 a] w fun e w' => e = .returned (.tuple #[.string ⟨#[]⟩, .int .i64 50]) ∧ Below w.heap.size w w') := fun w ht => by
              have := seq_any p a ra.1 ra.2 (by omega) w ht; rw [e1] at this; exact this
            have H2 : Hid (∀ w, Tab w → Calls Tryd.prog 6 #[.string p, .int .i32 b] w fun e w' => e = .returned (.tuple #[.string ⟨#[]⟩, .int .i64 50]) ∧ Below w.heap.size w w') := fun w ht => by
              have := seq_any p b rb.1 rb.2 (by omega) w ht; rw [e2] at this; exact this
            clear e1 e2
            go_enter Tryd.func3, Tryd.ntmps3
            go_wp2_with fail
            refine (long_any _ _).mono ?_
            rintro e w1 ⟨rfl, rfl⟩
            rw [hd]
            go_wp2_with fail
            refine (lives_any _).mono ?_
            rintro e w2 ⟨rfl, k2⟩
            have t2 := HT.out.later k2
            go_wp2_with fail
            refine (H1.out _ t2).mono ?_
            rintro e w3 ⟨rfl, k3⟩
            have t3 := t2.later k3
            have j3 := k2.trans (k3.mono k2.size)
            clear k2 k3 t2
            go_wp2_with fail
            refine (H2.out _ t3).mono ?_
            rintro e w4 ⟨rfl, k4⟩
            have HB : Hid (Below w1.heap.size w1 w4) := j3.trans (k4.mono j3.size)
            clear k4 j3 t3
            go_wp2
            go_ret
            exact ⟨rfl, HB.out⟩
        · have hba : b ≤ a := by omega
          go_enter Tryd.func3, Tryd.ntmps3
          go_wp2_with fail
          refine (long_any _ _).mono ?_
          rintro e w1 ⟨rfl, rfl⟩
          rw [hd]
          go_wp2_with fail
          refine (lives_any _).mono ?_
          rintro e w2 ⟨rfl, k2⟩
          go_wp2
          go_ret
          exact ⟨rfl, k2⟩

end pathRises
end Go.Proofs.YtgaemldkpfbomabDoor
