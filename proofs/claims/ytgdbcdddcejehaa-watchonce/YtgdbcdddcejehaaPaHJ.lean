/- What the document's Point, Good answer, put together. -/
import Derived.Test.YtgdbcdddcejehaaPaGtwoJ
import Derived.Test.YtgdbcdddcejehaaPaGthreeJ
import Derived.Test.YtgdbcdddcejehaaPaGfourJ
namespace Go.Proofs.Ytgdbcdddcejehaa
open Go.RowKit Go.Shelf
set_option maxRecDepth 8000

set_option maxHeartbeats 2000000 in
theorem point_any (s : ByteArray) (p : Nat) (hp : p < s.size) (hl : s.size ≤ 4294967296) (w : World) :
    Calls Try.prog 40 #[.string s, .int .i64 (p : Int)] w (pointPost (s.data.toList.drop p) w) := by
  have hb0 : bn (s.data.toList.drop p) 0 = s[p].toNat := (bn_at s p 0 hp).symm
  have h256 : s[p].toNat < 256 := s[p].toNat_lt
  by_cases h1 : s[p].toNat < 128
  · have HE : Hid (dec (s.data.toList.drop p) = (s[p].toNat, 1)) := by
      show _ = _
      rw [dec_low _ (by omega), hb0]
    clear hb0
    go_enter Try.func40, Try.ntmps40
    go_wp2
    go_ret2
    refine ⟨⟨(s[p].toNat : Int), ?_, .inl ?_⟩, rfl⟩
    · rw [HE.out]; rfl
    · rw [HE.out]
  · by_cases h2 : s[p].toNat < 192 ∨ 248 ≤ s[p].toNat
    · have HE : Hid (dec (s.data.toList.drop p) = (65533, 1)) := dec_bad _ (by omega) (by omega)
      clear hb0
      go_enter Try.func40, Try.ntmps40
      rcases h2 with h2 | h2
      · go_wp2
        all_goals (go_ret2; exact point_none HE.out)
      · go_wp2
        all_goals (go_ret2; exact point_none HE.out)
    · by_cases h3 : s[p].toNat < 224
      · exact point_two s p hp hl w (by omega)
      · by_cases h4 : s[p].toNat < 240
        · exact point_three s p hp hl w (by omega)
        · exact point_four s p hp hl w (by omega)

/-- May this number stand in a name? -/
def goodI (c : Int) : Bool := standI c && decide (c ≠ 47)

theorem good_any (c : Int) (w : World) : Calls Try.prog 41 #[.int .i64 c] w fun e w' => e = .returned (.bool (goodI c)) ∧ w' = w := by
  have hs : goodI c = true ↔ (31 < c ∧ (c < 127 ∨ 159 < c) ∧ (c < 57344 ∨ 63743 < c) ∧ (c < 65520 ∨ 65535 < c)) ∧ c ≠ 47 := by
    unfold goodI standI
    simp
  have HS : Hid _ := hs
  clear hs
  go_enter Try.func41, Try.ntmps41
  go_wp2
  all_goals (go_ret; refine ⟨?_, rfl⟩; refine congrArg (fun b => Ending.returned (Value.bool b)) ?_; rw [Bool.eq_iff_iff, HS.out]; simp only [Bool.and_eq_true, Bool.not_eq_true', Bool.false_eq_true, false_iff, decide_eq_false_iff_not, bne_iff_ne])
  all_goals omega

end Go.Proofs.Ytgdbcdddcejehaa
