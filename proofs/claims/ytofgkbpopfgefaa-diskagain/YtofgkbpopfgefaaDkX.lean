/- Two images of the same files: EqFiles answers true. -/
import Derived.Test.YtofgkbpopfgefaaDkV
import Derived.Deep.QuietTactic
import Derived.BigQuiet
namespace Go.Proofs.Ytofgkbpopfgefaa
open Go.RowKit Go.Shelf
set_option maxRecDepth 8000

set_option maxHeartbeats 1000000 in
theorem eqFiles_same {w : World} {B1 B2 g1 g2 : Nat} {fs : List FiD} {vs us : List Value} (h1 : ImgAt w B1 (.slice (some ⟨g1, 0, none⟩) fs.length fs.length) fs vs) (h2 : ImgAt w B2 (.slice (some ⟨g2, 0, none⟩) fs.length fs.length) fs us) (hfew : fs.length ≤ 64) :
    Calls Try.prog 23 #[.slice (some ⟨g1, 0, none⟩) fs.length fs.length, .slice (some ⟨g2, 0, none⟩) fs.length fs.length] w fun e w' => e = .returned (.bool true) ∧ ∃ n, w' = w.drewN n := by
  have H : Hid (ImgAt w B1 (.slice (some ⟨g1, 0, none⟩) fs.length fs.length) fs vs ∧ ImgAt w B2 (.slice (some ⟨g2, 0, none⟩) fs.length fs.length) fs us) := ⟨h1, h2⟩
  clear h1 h2
  obtain ⟨N, hN⟩ : ∃ N, N = fs.length := ⟨_, rfl⟩
  rw [← hN] at hfew ⊢
  have HN : Hid _ := hN
  clear hN
  go_enter Try.func23, Try.ntmps23
  go_wp2_with fail
  go_loopw [5] (fun vi wx => ∃ i : Nat, i ≤ N ∧ vi = .int .i64 i ∧ Hid (∃ q, wx = w.drewN q)) (fun vi _ => N - (intOf vi).toNat)
  case atStart => exact ⟨0, Nat.zero_le _, rfl, ⟨0, rfl⟩⟩
  case round =>
    obtain ⟨i, hi, rfl, HW⟩ := hrel
    have hbw : Below w.heap.size w wr := by
      obtain ⟨q, rfl⟩ := HW.out
      exact below_drewN (Below.refl _ _) q
    by_cases hlt : i < N
    · have hlt1 : i < fs.length := by rw [← HN.out]; exact hlt
      obtain ⟨u1, _, a0, a1, a2, ho1⟩ := (H.out.1.kept (Below.kept hbw) (fun j e => .inr e)).cells i hlt1
      obtain ⟨u2, _, b0, b1, b2, ho2⟩ := (H.out.2.kept (Below.kept hbw) (fun j e => .inr e)).cells i hlt1
      obtain ⟨x1, y1, hu1, _, _⟩ := own_shape (owns_mono ho1 (Nat.zero_le _))
      obtain ⟨x2, y2, hu2, _, _⟩ := own_shape (owns_mono ho2 (Nat.zero_le _))
      have hs1 := Sees.own ho1
      have hs2 := Sees.own ho2
      rw [hu1] at hs1 a1
      rw [hu2] at hs2 b1
      have HEQ : Hid (∀ m, Calls Try.prog 18 #[.slice x1 fs[i].bytes.length y1, .slice x2 fs[i].bytes.length y2] (wr.drewN m) fun e w' => e = .returned (.bool true) ∧ ∃ n, w' = (wr.drewN m).drewN n) := fun m => by
        have h1 := eqBytes_any _ _ _ _ (wr.drewN m) (hs1.below (below_drewN (Below.refl _ _) m) (Nat.le_refl _)) (hs2.below (below_drewN (Below.refl _ _) m) (Nat.le_refl _))
        rw [decide_eq_true rfl] at h1
        exact h1
      generalize fs[i].bytes.length = L at *
      generalize fs[i].name = nm at *
      generalize fs[i].dur = du at *
      clear ho1 ho2 hs1 hs2 hu1 hu2 hbw
      go_wp2_with fail
      go_quiet ((go_at_call 18; exact Calls.quiet_of (HEQ.out _)))
      go_wp2_with fail
      go_roundw
      case rel => exact ⟨i + 1, by omega, by go_num, ⟨HW.out.choose + nq, by rw [← World.drewN_drewN, ← HW.out.choose_spec]⟩⟩
      case measure => simp [intOf]; omega
    · obtain rfl : i = N := by omega
      go_wp2_with fail
      go_ret
      exact ⟨rfl, HW.out⟩
end Go.Proofs.Ytofgkbpopfgefaa
