/- Lists of texts and of files that are the same: EqTexts and EqFiles answer true, however the lists lie. -/
import Derived.Test.YtbdokdhconhifaaGreatDoorRdIJ
import Derived.Test.YtbdokdhconhifaaGreatDoorDkYJ
namespace Go.Proofs.YtbdokdhconhifaaGreatDoor
open Go.RowKit Go.Shelf
set_option maxRecDepth 8000

theorem row_shapeR {w : World} {B : Nat} {t : TypeId} {z : Nat} {v : Value} {n : Nat} {xs : List Value} (h : w.ownsRow B t z v n xs) : ∃ a c, v = .slice a n c ∧ n ≤ c ∧ c ≤ 9223372036854775807 := by
  obtain ⟨_, ⟨e, e0⟩ | ⟨g, cap, cur, e, _, _, h4, h5, _⟩⟩ := h
  · exact ⟨none, 0, by rw [e, e0], by rw [e0]; omega, by omega⟩
  · unfold maxLen at h5
    exact ⟨_, _, e, h4, by omega⟩

theorem rowN_cell {w : World} {B : Nat} {v : Value} {fs : List FiD} (h : w.ownsRow B 9 1 v fs.length (nmC fs)) (k : Nat) (hk : k < fs.length) : ∃ g c, v = .slice (some ⟨g, 0, none⟩) fs.length c ∧ w.cell? ⟨g, k, none⟩ = some (.string fs[k].name) := by
  rcases h.2 with ⟨_, h0⟩ | ⟨g, c, cur, rfl, h1, h2, h3, h4, _⟩
  · omega
  · refine ⟨g, c, rfl, ?_⟩
    have := h.cellAt k (by simpa using hk)
    rw [this]
    simp [hk]

set_option maxHeartbeats 1000000 in
theorem eqNames_same {w : World} {B1 B2 : Nat} {v1 v2 : Value} {fs : List FiD} (h1 : w.ownsRow B1 9 1 v1 fs.length (nmC fs)) (h2 : w.ownsRow B2 9 1 v2 fs.length (nmC fs)) (hfew : fs.length ≤ 64) :
    Calls Tryz.prog 18 #[v1, v2] w fun e w' => e = .returned (.bool true) ∧ ∃ n, w' = w.drewN n := by
  obtain ⟨a1, c1, rfl, hc1, hm1⟩ := row_shapeR h1
  obtain ⟨a2, c2, rfl, hc2, hm2⟩ := row_shapeR h2
  have H : Hid _ := And.intro h1 h2
  clear h1 h2
  obtain ⟨N, hN⟩ : ∃ N, N = fs.length := ⟨_, rfl⟩
  rw [← hN] at hfew hc1 hc2 H ⊢
  have HN : Hid _ := hN
  clear hN
  go_enter Tryz.func18, Tryz.ntmps18
  go_wp2_with fail
  go_loopw [5] (fun i wr => ∃ k m : Nat, k ≤ N ∧ i = .int .i64 k ∧ wr = w.drewN m) (fun i _ => N - (intOf i).toNat)
  case atStart => exact ⟨0, 0, Nat.zero_le _, rfl, rfl⟩
  case round =>
    obtain ⟨k, m, hk, rfl, rfl⟩ := hrel
    by_cases hlt : k < N
    · have H' := H.out
      rw [HN.out] at H'
      have hlt1 : k < fs.length := by rw [← HN.out]; exact hlt
      obtain ⟨g1, d1, e1, q1⟩ := rowN_cell H'.1 k hlt1
      obtain ⟨g2, d2, e2, q2⟩ := rowN_cell H'.2 k hlt1
      simp only [Value.slice.injEq] at e1 e2
      obtain ⟨rfl, hNf, rfl⟩ := e1
      clear hNf
      obtain ⟨rfl, hNf, rfl⟩ := e2
      clear hNf
      clear H'
      generalize fs[k].name = x at *
      go_wp2
      go_quiet (fail)
      go_wp2
      go_roundw
      case rel => exact ⟨k + 1, _, by omega, by go_num, rfl⟩
      case measure => simp [intOf]; omega
    · obtain rfl : k = N := by omega
      go_wp2
      go_ret
      exact ⟨rfl, m, rfl⟩

set_option maxHeartbeats 1000000 in
theorem eqFiles_like {w : World} {B1 B2 : Nat} {v1 v2 : Value} {fs : List FiD} {vs us : List Value} (h1 : ImgAt w B1 v1 fs vs) (h2 : ImgAt w B2 v2 fs us) (hfew : fs.length ≤ 64) :
    Calls Tryz.prog 19 #[v1, v2] w fun e w' => e = .returned (.bool true) ∧ ∃ n, w' = w.drewN n := by
  obtain ⟨p1, c1, rfl, hc1, hm1⟩ := img_shape h1
  obtain ⟨p2, c2, rfl, hc2, hm2⟩ := img_shape h2
  have H : Hid _ := And.intro h1 h2
  clear h1 h2
  obtain ⟨N, hN⟩ : ∃ N, N = fs.length := ⟨_, rfl⟩
  rw [← hN] at hfew hc1 hc2 H ⊢
  have HN : Hid _ := hN
  clear hN
  go_enter Tryz.func19, Tryz.ntmps19
  go_wp2_with fail
  go_loopw [5] (fun vi wx => ∃ i : Nat, i ≤ N ∧ vi = .int .i64 i ∧ Hid (∃ q, wx = w.drewN q)) (fun vi _ => N - (intOf vi).toNat)
  case atStart => exact ⟨0, Nat.zero_le _, rfl, ⟨0, rfl⟩⟩
  case round =>
    obtain ⟨i, hi, rfl, HW⟩ := hrel
    have hbw : Below w.heap.size w wr := by
      obtain ⟨q, rfl⟩ := HW.out
      exact below_drewN (Below.refl _ _) q
    by_cases hlt : i < N
    · have hlt1 : i < fs.length := by rw [← HN.out]; exact hlt
      obtain ⟨g1, d1, u1, e1, _, a0, a1, a2, ho1⟩ := img_at H.out.1 hbw i hlt1
      obtain ⟨g2, d2, u2, e2, _, b0, b1, b2, ho2⟩ := img_at H.out.2 hbw i hlt1
      obtain ⟨rfl, hNf, rfl⟩ := Value.slice.inj e1
      clear hNf
      obtain ⟨rfl, hNf, rfl⟩ := Value.slice.inj e2
      clear hNf
      obtain ⟨x1, y1, hu1, _, _⟩ := own_shape (owns_mono ho1 (Nat.zero_le _))
      obtain ⟨x2, y2, hu2, _, _⟩ := own_shape (owns_mono ho2 (Nat.zero_le _))
      have hs1 := Sees.own ho1
      have hs2 := Sees.own ho2
      rw [hu1] at hs1 a1
      rw [hu2] at hs2 b1
      have HEQ : Hid (∀ m, Calls Tryz.prog 17 #[.slice x1 fs[i].bytes.length y1, .slice x2 fs[i].bytes.length y2] (wr.drewN m) fun e w' => e = .returned (.bool true) ∧ ∃ n, w' = (wr.drewN m).drewN n) := fun m => by
        have h1 := eqBytes_any _ _ _ _ (wr.drewN m) (hs1.below (below_drewN (Below.refl _ _) m) (Nat.le_refl _)) (hs2.below (below_drewN (Below.refl _ _) m) (Nat.le_refl _))
        rw [decide_eq_true rfl] at h1
        exact h1
      generalize fs[i].bytes.length = L at *
      generalize fs[i].name = nm at *
      generalize fs[i].dur = du at *
      clear ho1 ho2 hs1 hs2 hu1 hu2 hbw e1 e2
      go_wp2_with fail
      go_quiet ((go_at_call 17; exact Calls.quiet_of (HEQ.out _)))
      go_wp2_with fail
      go_roundw
      case rel => exact ⟨i + 1, by omega, by go_num, ⟨HW.out.choose + nq, by rw [← World.drewN_drewN, ← HW.out.choose_spec]⟩⟩
      case measure => simp [intOf]; omega
    · obtain rfl : i = N := by omega
      go_wp2_with fail
      go_ret
      exact ⟨rfl, HW.out⟩
end Go.Proofs.YtbdokdhconhifaaGreatDoor
