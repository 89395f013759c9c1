/- What frame.One answers: the body of a text that is just one frame, in new memory; else ErrFrame. -/
import Derived.Test.YtdbphdllibffnaaGreatFr4J
import Derived.Test.YtdbphdllibffnaaGreatMaAJ
namespace Go.Proofs.YtdbphdllibffnaaGreat
open Go.RowKit
set_option maxRecDepth 8000

theorem sees_body {w : World} {v : Value} {xs : List Int} (h : Sees w v xs) (hn : bodyLen xs ≠ 0) : ∃ b off cap, bodyV v (bodyLen xs) = .slice (some ⟨b, off, none⟩) (bodyLen xs) cap ∧ Sees w (bodyV v (bodyLen xs)) ((xs.drop 8).take (bodyLen xs)) ∧ ((xs.drop 8).take (bodyLen xs)).length = bodyLen xs ∧ cap ≤ maxLen ∧ bodyLen xs ≤ cap := by
  have hle := bodyLen_le xs hn
  have hl : ((xs.drop 8).take (bodyLen xs)).length = bodyLen xs := by simp; omega
  obtain ⟨b, off, cap, rfl, g1, g2, hbw, g3⟩ := sees_some h (fun e => by rw [e] at hle; simp at hle)
  have e : bodyV (.slice (some ⟨b, off, none⟩) xs.length cap) (bodyLen xs) = .slice (some ⟨b, off + 8, none⟩) (bodyLen xs) (cap - 8) := by unfold bodyV; rw [if_neg hn]
  refine ⟨b, off + 8, cap - 8, e, ?_, hl, by omega, by omega⟩
  rw [e]
  have := sees_cut h (i := 8) (j := 8 + bodyLen xs) (by omega) (by omega)
  rwa [Nat.add_sub_cancel_left] at this

set_option maxHeartbeats 1000000 in
theorem one_bad (v : Value) (xs : List Int) (w : World) (h : Sees w v xs) (hb : Byts xs) (hl : xs.length ≤ 140737488355328) (hn : bodyLen xs = 0 ∨ bodyLen xs + 9 ≠ xs.length) :
    Calls Tryz.prog 41 #[v] w fun e w' => e = .returned (.tuple #[.slice none 0 0, .int .i64 30]) ∧ Below w.heap.size w w' := by
  have HF : Hid _ := first_any v xs w h hb hl
  by_cases h0 : bodyLen xs = 0
  · have e0 : bodyV v (bodyLen xs) = .slice none 0 0 := by unfold bodyV; rw [if_pos h0]
    rw [e0] at HF
    obtain ⟨ao, cap, rfl, g1, g2, g0, g3⟩ := h
    clear g3 g0 hn e0 h0 hb
    unfold maxLen at g2
    go_enter Tryz.func41, Tryz.ntmps41
    go_wp2_with fail
    refine Calls.mono HF.out ?_
    rintro e w1 ⟨rfl, hb1⟩
    have H1 : Hid (Below w.heap.size w w1) := hb1
    clear hb1 HF
    go_wp2
    go_ret2
    exact ⟨rfl, H1.out⟩
  · obtain ⟨b, off, cp, e1, _, _, c1, c2⟩ := sees_body h h0
    rw [e1] at HF
    have hle := bodyLen_le xs h0
    have hne : bodyLen xs + 9 ≠ xs.length := by
      rcases hn with hn | hn
      · exact absurd hn h0
      · exact hn
    obtain ⟨ao, cap, rfl, g1, g2, g0, g3⟩ := h
    clear g3 g0 hn e1 hb
    unfold maxLen at g2 c1
    generalize bodyLen xs = n at *
    have d0 : ((n : Int) == 0) = false := by simp; omega
    have d1 : ((n : Int) + 9 != xs.length) = true := by simp; omega
    go_enter Tryz.func41, Tryz.ntmps41
    go_wp2_with fail
    refine Calls.mono HF.out ?_
    rintro e w1 ⟨rfl, hb1⟩
    have H1 : Hid (Below w.heap.size w w1) := hb1
    clear hb1 HF
    go_wp2
    go_ret2
    exact ⟨rfl, H1.out⟩

set_option maxHeartbeats 1000000 in
theorem one_ok (v : Value) (xs : List Int) (w : World) (h : Sees w v xs) (hb : Byts xs) (hl : xs.length ≤ 140737488355328) (h0 : bodyLen xs ≠ 0) (h9 : bodyLen xs + 9 = xs.length) :
    Calls Tryz.prog 41 #[v] w fun e w' => ∃ g, e = .returned (.tuple #[.slice (some ⟨g, 0, none⟩) (bodyLen xs) (bodyLen xs), .int .i64 0]) ∧ w.heap.size ≤ g ∧ Owns w' w.heap.size (.slice (some ⟨g, 0, none⟩) (bodyLen xs) (bodyLen xs)) ((xs.drop 8).take (bodyLen xs)) ∧ Below w.heap.size w w' := by
  have HF : Hid _ := first_any v xs w h hb hl
  have hle := bodyLen_le xs h0
  have hsz := bodyLen_size xs h0
  obtain ⟨b, off, cp, e1, s1, l1, c1, c2⟩ := sees_body h h0
  rw [e1] at HF s1
  obtain ⟨i0, hi, hz0, hz1, hz2⟩ := info_parts Tryz.infoByte
  have HS : Hid (Sees w (.slice (some ⟨b, off, none⟩) (bodyLen xs) cp) ((xs.drop 8).take (bodyLen xs))) := s1
  obtain ⟨ao, cap, rfl, g1, g2, g0, g3⟩ := h
  clear g3 g0 e1 hb s1
  unfold maxLen at g2 c1
  generalize (xs.drop 8).take (bodyLen xs) = ys at *
  have hn20 : bodyLen xs ≤ 1048576 := by simp [isSz] at hsz; omega
  generalize bodyLen xs = n at *
  clear hsz
  have d0 : ((n : Int) == 0) = false := by simp; omega
  have d1 : ((n : Int) + 9 != xs.length) = false := by simp; omega
  go_enter Tryz.func41, Tryz.ntmps41
  go_wp2_with fail
  refine Calls.mono HF.out ?_
  rintro e w1 ⟨rfl, hb1⟩
  have H1 : Hid (Below w.heap.size w w1) := hb1
  clear hb1 HF
  go_wp2_with (at_make; refine wpList_make_full _ rfl _ _ 36 rfl w1.heap.size 5 i0 (.int .u8 0) 1 Tryz.underlying36 hi hz0 hz1 .i64 .i64 _ _ n rfl rfl (by omega) (by omega) (by rw [hz2]; omega) (by unfold maxLen; omega) (Nat.le_refl _) ?_)
  intro w2 hown0 hgrow0
  have hown1 := made_owns hown0
  have hbel0 : Below w1.heap.size w1 w2 := (Below.refl _ _).grown hgrow0 (Nat.le_refl _) (fun k hk => by simp at hk)
  have hz : (List.replicate n (0 : Int)).length = n := by simp
  rw [hz] at hown1
  obtain ⟨Z, hZ⟩ : ∃ Z, Z = List.replicate n (0 : Int) := ⟨_, rfl⟩
  rw [← hZ] at hown1 hz
  have hO : Owns w2 w1.heap.size (.slice (some ⟨w1.heap.size, 0, none⟩) Z.length Z.length) Z := by rw [hz]; exact hown1
  have B2 : Below w.heap.size w w2 := H1.out.trans (below_low hbel0 H1.out.size)
  obtain ⟨w3, Z3, hr3, hZ3, hO3, hB3⟩ := run_cp (off := 0) (dl := n) (dc := n) hO 3 (HS.out.below B2 (Nat.le_refl _)) (nil_of (by omega)) (by omega) (by omega)
  have e3 : Z3 = ys := by
    rw [hZ3, List.take_zero, List.nil_append, Nat.zero_add, List.drop_eq_nil_of_le (by omega), List.append_nil]
  rw [e3, l1] at hO3
  rw [l1] at hr3
  have HR : Hid (Owns w3 w1.heap.size (.slice (some ⟨w1.heap.size, 0, none⟩) n n) ys ∧ Below w.heap.size w w3) := ⟨hO3, B2.trans (hB3.below B2.size (fun k hk => by have := H1.out.size; omega))⟩
  clear hown0 hgrow0 hown1 hbel0 hO B2 hZ3 hO3 hB3 e3 hZ hz HS
  go_wp2
  go_ret2
  exact ⟨w1.heap.size, rfl, H1.out.size, owns_mono HR.out.1 H1.out.size, HR.out.2⟩

end Go.Proofs.YtdbphdllibffnaaGreat
