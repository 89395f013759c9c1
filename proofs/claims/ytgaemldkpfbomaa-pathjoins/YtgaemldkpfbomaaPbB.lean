/- What the document's Join answers: what path.Join does. -/
import Derived.Test.YtgaemldkpfbomaaPaL
import Derived.Test.YtgaemldkpfbomaaPaU
namespace Go.Proofs.Ytgaemldkpfbomaa
open Go.RowKit Go.Shelf
set_option maxRecDepth 8000

theorem nameB_nmB (l : Bs) : nameB l = nmB l := by
  rw [Bool.eq_iff_iff, nameB_iff, nmB_iff]

set_option maxHeartbeats 1000000 in
theorem joinR_any (d n : ByteArray) (w : World) (hd : d.size ≤ 2147483648) (hn : n.size ≤ 2147483640) :
    Calls Try.prog 21 #[.string d, .string n] w fun e w' => e = .returned (joinV d.data.toList n.data.toList) ∧ Below w.heap.size w w' := by
  have e1 := eq_list' d [47]
  obtain ⟨j, hj⟩ : ∃ j : ByteArray, j = if d.data.toList = [47] then slashB ++ n else d ++ slashB ++ n := ⟨_, rfl⟩
  have hjl : j.data.toList = jn d.data.toList n.data.toList := by
    rw [hj]; unfold jn
    split
    · rw [app_list]; rfl
    · rw [app_list, app_list]; simp
  have hjs : j.size ≤ 4294967295 := by
    rw [size_list, hjl]; unfold jn
    have := size_list d
    have := size_list n
    split
    · simp; omega
    · simp; omega
  have hjv : bytesV (jn d.data.toList n.data.toList) = .string j := bytesV_list j _ hjl
  have H1 : Hid (∀ w, Calls Try.prog 25 #[.string d] w fun e w' => e = .returned (.bool (isPb d.data.toList)) ∧ Below w.heap.size w w') := fun w => is_any d (by omega) w
  have H2 : Hid (∀ w, Calls Try.prog 36 #[.string n] w fun e w' => e = .returned (.bool (nmB n.data.toList)) ∧ w' = w) := fun w => by rw [← nameB_nmB]; exact name_any n (by omega) w
  have H3 : Hid (∀ w, Calls Try.prog 25 #[.string j] w fun e w' => e = .returned (.bool (isPb (jn d.data.toList n.data.toList))) ∧ Below w.heap.size w w') := fun w => by rw [← hjl]; exact is_any j hjs w
  unfold joinV
  rw [hjv]
  generalize isPb (jn d.data.toList n.data.toList) = b3 at *
  generalize hb1e : isPb d.data.toList = b1 at *
  generalize nmB n.data.toList = b2 at *
  clear hb1e hjl hjs hjv
  by_cases h47 : d.data.toList = [47]
  · rw [decide_eq_true h47] at e1
    rw [if_pos h47] at hj
    subst hj
    clear h47
    cases b1 with
    | false =>
      go_enter Try.func21, Try.ntmps21
      go_wp2_with fail
      refine (H1.out _).mono ?_
      rintro e w1 ⟨rfl, hb1⟩
      go_wp2
      go_ret2
      exact ⟨rfl, hb1⟩
    | true =>
      cases b2 with
      | false =>
        go_enter Try.func21, Try.ntmps21
        go_wp2_with fail
        refine (H1.out _).mono ?_
        rintro e w1 ⟨rfl, hb1⟩
        go_wp2_with fail
        refine (H2.out _).mono ?_
        rintro e w2 ⟨rfl, rfl⟩
        go_wp2
        go_ret2
        exact ⟨rfl, hb1⟩
      | true =>
        cases b3 with
        | false =>
          go_enter Try.func21, Try.ntmps21
          go_wp2_with fail
          refine (H1.out _).mono ?_
          rintro e w1 ⟨rfl, hb1⟩
          go_wp2_with fail
          refine (H2.out _).mono ?_
          rintro e w2 ⟨rfl, rfl⟩
          go_wp2_with fail
          refine (H3.out _).mono ?_
          rintro e w3 ⟨rfl, hb3⟩
          go_wp2
          go_ret2
          exact ⟨rfl, hb1.trans (hb3.mono hb1.size)⟩
        | true =>
          go_enter Try.func21, Try.ntmps21
          go_wp2_with fail
          refine (H1.out _).mono ?_
          rintro e w1 ⟨rfl, hb1⟩
          go_wp2_with fail
          refine (H2.out _).mono ?_
          rintro e w2 ⟨rfl, rfl⟩
          go_wp2_with fail
          refine (H3.out _).mono ?_
          rintro e w3 ⟨rfl, hb3⟩
          go_wp2
          go_ret2
          exact ⟨rfl, hb1.trans (hb3.mono hb1.size)⟩
  · rw [decide_eq_false h47] at e1
    rw [if_neg h47] at hj
    subst hj
    clear h47
    cases b1 with
    | false =>
      go_enter Try.func21, Try.ntmps21
      go_wp2_with fail
      refine (H1.out _).mono ?_
      rintro e w1 ⟨rfl, hb1⟩
      go_wp2
      go_ret2
      exact ⟨rfl, hb1⟩
    | true =>
      cases b2 with
      | false =>
        go_enter Try.func21, Try.ntmps21
        go_wp2_with fail
        refine (H1.out _).mono ?_
        rintro e w1 ⟨rfl, hb1⟩
        go_wp2_with fail
        refine (H2.out _).mono ?_
        rintro e w2 ⟨rfl, rfl⟩
        go_wp2
        go_ret2
        exact ⟨rfl, hb1⟩
      | true =>
        cases b3 with
        | false =>
          go_enter Try.func21, Try.ntmps21
          go_wp2_with fail
          refine (H1.out _).mono ?_
          rintro e w1 ⟨rfl, hb1⟩
          go_wp2_with fail
          refine (H2.out _).mono ?_
          rintro e w2 ⟨rfl, rfl⟩
          go_wp2_with fail
          refine (H3.out _).mono ?_
          rintro e w3 ⟨rfl, hb3⟩
          go_wp2
          go_ret2
          exact ⟨rfl, hb1.trans (hb3.mono hb1.size)⟩
        | true =>
          go_enter Try.func21, Try.ntmps21
          go_wp2_with fail
          refine (H1.out _).mono ?_
          rintro e w1 ⟨rfl, hb1⟩
          go_wp2_with fail
          refine (H2.out _).mono ?_
          rintro e w2 ⟨rfl, rfl⟩
          go_wp2_with fail
          refine (H3.out _).mono ?_
          rintro e w3 ⟨rfl, hb3⟩
          go_wp2
          go_ret2
          exact ⟨rfl, hb1.trans (hb3.mono hb1.size)⟩

end Go.Proofs.Ytgaemldkpfbomaa
