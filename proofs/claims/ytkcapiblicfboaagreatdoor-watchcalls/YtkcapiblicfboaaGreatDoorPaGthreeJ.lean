/- What the document's Point answers: a code point of three bytes. -/
import Derived.Test.YtkcapiblicfboaaGreatDoorPaGJ
namespace Go.Proofs.YtkcapiblicfboaaGreatDoor
open Go.RowKit Go.Shelf
set_option maxRecDepth 8000

set_option maxHeartbeats 2000000 in
theorem point_three (s : ByteArray) (p : Nat) (hp : p < s.size) (hl : s.size ≤ 4294967296) (w : World) (hb : 224 ≤ s[p].toNat ∧ s[p].toNat < 240) :
    Calls Tryz.prog 100 #[.string s, .int .i64 (p : Int)] w (pointPost (s.data.toList.drop p) w) := by
  obtain ⟨L, hL⟩ : ∃ L, L = s.data.toList.drop p := ⟨_, rfl⟩
  have hlen : L.length = s.size - p := by rw [hL, List.length_drop, ← size_list]
  have hb0 : bn L 0 = s[p].toNat := by rw [hL]; exact (bn_at s p 0 hp).symm
  have HB : Hid (∀ k (h : p + k < s.size), (s[p + k]'h).toNat = bn L k) := fun k h => by rw [hL]; exact bn_at s p k h
  have HD : Hid (∀ j, 1 ≤ j → j < 3 → ¬ Goes L j → dec L = (65533, 1)) := fun j h1 h2 hj => dec_stop L 3 (by omega) j h1 h2 hj
  obtain ⟨c0, hc0⟩ : ∃ c0 : Int, c0 = (s[p].toNat : Int) - 224 := ⟨_, rfl⟩
  have HG := dec_goes L 3 c0 2048 (by omega)
  have HGo : Hid _ := HG
  rw [← hL]
  have HLn : Hid (L.length = s.size - p) := hlen
  have HC : Hid (c0 = (s[p].toNat : Int) - 224) := hc0
  have h256 : s[p].toNat < 256 := s[p].toNat_lt
  clear hL hlen hb0 HG hc0
  go_enter Tryz.func100, Tryz.ntmps100
  go_wp2
  rw [← HC.out]
  have q1 : decide ((s[p].toNat : Int) < 128) = false := by rw [decide_eq_false_iff_not]; omega
  have q2 : decide ((s[p].toNat : Int) < 240) = true := by rw [decide_eq_true_iff]; omega
  have q3 : decide ((192 : Int) ≤ s[p].toNat) = true := by rw [decide_eq_true_iff]; omega
  have q4 : decide ((224 : Int) ≤ s[p].toNat) = true := by rw [decide_eq_true_iff]; omega
  try rw [q1]
  try rw [q2]
  try rw [q3]
  try rw [q4]
  have HBb : Hid (224 ≤ s[p].toNat ∧ s[p].toNat < 240 ∧ s[p].toNat < 256) := ⟨hb.1, hb.2, h256⟩
  clear hb h256 q1 q2 q3 q4
  go_loop [8, 10] (fun vc vi => ∃ i j : Nat, Hid (i = j + 1) ∧ 1 ≤ i ∧ i ≤ 3 ∧ vi = .int .i64 (i : Int) ∧ ∃ c : Int, vc = .int .i64 c ∧ Hid (c = accI L c0 j) ∧ 0 ≤ c ∧ c ≤ 16777216 ∧ Hid (c < 64 ^ i) ∧ Hid (∀ k, 1 ≤ k → k < i → Goes L k)) (fun _ vi => (3 - RowKit.intOf vi).toNat)
  case atStart =>
    have := HC.out
    have := HBb.out
    exact ⟨1, 0, rfl, by omega, by omega, rfl, c0, rfl, rfl, by omega, by omega, by show _ < _; omega, fun k h1 h2 => by omega⟩
  case round =>
    obtain ⟨i, j, HI, h1, hi, rfl, c, rfl, HA, hc1, hc2, HP, HK⟩ := hrel
    by_cases hend : i = 3
    · subst hend
      have hj : j = 3 - 1 := by have := HI.out; omega
      have hg := HGo.out (fun k h1 h2 => HK.out k h1 h2)
      rw [← hj, ← HA.out] at hg
      by_cases hbad : c < 2048 ∨ c > 1114111 ∨ (55296 ≤ c ∧ c ≤ 57343)
      · have HE : Hid (dec L = (65533, 1)) := hg.1 hbad
        clear hg
        go_wp2
        all_goals (try (go_ret2; exact point_none HE.out))
        all_goals (exfalso; omega)
      · have HE : Hid (((dec L).1 : Int) = c ∧ (dec L).2 = 3) := hg.2 hbad
        clear hg
        have n1 : ¬ c < 2048 := fun h => hbad (.inl h)
        have n2 : ¬ c > 1114111 := fun h => hbad (.inr (.inl h))
        have n3 : ¬ (55296 ≤ c ∧ c ≤ 57343) := fun h => hbad (.inr (.inr h))
        clear hbad
        go_wp2
        all_goals (try (go_ret2; refine ⟨⟨c, ?_, .inl HE.out.1.symm⟩, rfl⟩; rw [HE.out.2]; rfl))
    · by_cases hG : Goes L i
      · obtain ⟨g1, g2, g3⟩ := hG
        have hlt : p + i < s.size := by have := HLn.out; omega
        have hby := HB.out i hlt
        rw [← hby] at g2 g3
        have HX : Hid (∀ k, 1 ≤ k → k < i + 1 → Goes L k) := fun k h1 h2 => by
          by_cases e : k = i
          · subst e; exact ⟨g1, by rw [← hby]; exact g2, by rw [← hby]; exact g3⟩
          · exact HK.out k h1 (by omega)
        have HAc : Hid (64 * c + (s[p + i].toNat : Int) - 128 = accI L c0 (j + 1)) := by
          show _ = _
          rw [accI, ← HI.out, ← HA.out, hby]
        have hpw : c ≤ 16777216 / 64 - 1 := by
          have := HP.out
          have h3 : (64 : Int) ^ i ≤ 64 ^ 3 := by
            have : i = 1 ∨ i = 2 ∨ i = 3 := by omega
            rcases this with rfl | rfl | rfl <;> decide
          omega
        have HPx : Hid (64 * c + (s[p + i].toNat : Int) - 128 < 64 ^ (i + 1)) := by
          show _ < _
          have := HP.out
          rw [Int.pow_succ]
          omega
        clear hby g1
        go_wp2
        refine ⟨⟨i + 1, i, rfl, by omega, by omega, by simp, _, rfl, by show _ = _; rw [HAc.out, HI.out], by omega, by omega, HPx, HX⟩, ?_⟩
        simp [RowKit.intOf]; omega
      · have HE : Hid (dec L = (65533, 1)) := HD.out i h1 (by omega) hG
        by_cases hlt : p + i < s.size
        · have hby := HB.out i hlt
          have hr : s[p + i].toNat < 128 ∨ 191 < s[p + i].toNat := by
            rw [hby]
            have := HLn.out
            unfold Goes at hG
            omega
          clear hby hG
          rcases hr with hr | hr
          · go_wp2
            all_goals (try (go_ret2; exact point_none HE.out))
          · go_wp2
            all_goals (try (go_ret2; exact point_none HE.out))
        · clear hG
          go_wp2
          all_goals (try (go_ret2; exact point_none HE.out))

end Go.Proofs.YtkcapiblicfboaaGreatDoor
