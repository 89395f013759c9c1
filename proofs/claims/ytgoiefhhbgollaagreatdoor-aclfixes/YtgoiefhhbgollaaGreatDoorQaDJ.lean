/- What name of the document's layer 6 answers. -/
import Derived.Test.YtgoiefhhbgollaaGreatDoorQaCJ
namespace Go.Proofs.YtgoiefhhbgollaaGreatDoor
open Go.RowKit
set_option maxRecDepth 8000

/-- A byte that a name may have. -/
def nmC (b : UInt8) : Bool := decide ((97 ≤ b.toNat ∧ b.toNat ≤ 122) ∨ (48 ≤ b.toNat ∧ b.toNat ≤ 57) ∨ b.toNat = 46 ∨ b.toNat = 95 ∨ b.toNat = 45)

def nmR (l : Bs) : Bool := l.all nmC && decide (1 ≤ l.length ∧ l.length ≤ 24)

theorem all_step {l : Bs} {k : Nat} (hk : k < l.length) : (l.take (k + 1)).all nmC = ((l.take k).all nmC && nmC (l.getD k 0)) := by
  rw [List.take_succ_eq_append_getElem hk, List.all_append, List.all_cons, List.all_nil, Bool.and_true, List.getD_eq_getElem?_getD, List.getElem?_eq_getElem hk]
  rfl

theorem all_bad {l : Bs} {k : Nat} (hk : k < l.length) (h : nmC (l.getD k 0) = false) : l.all nmC = false := by
  rw [List.all_eq_false]
  refine ⟨l[k], List.getElem_mem hk, ?_⟩
  rw [List.getD_eq_getElem?_getD, List.getElem?_eq_getElem hk] at h
  simp only [Option.getD_some] at h
  simp [h]

set_option maxHeartbeats 1000000 in
theorem name_any (s : ByteArray) (hl : s.size ≤ 4294967296) (w : World) :
    Calls Tryz.prog 91 #[.string s] w fun e w' => e = .returned (.bool (nmR s.data.toList)) ∧ w' = w := by
  have HS : Hid (s.size = s.data.toList.length) := size_list s
  obtain ⟨val, hval⟩ : ∃ val, val = nmR s.data.toList := ⟨_, rfl⟩
  rw [← hval]
  have HVal : Hid (val = nmR s.data.toList) := hval
  clear hval
  go_enter Tryz.func91, Tryz.ntmps91
  go_wp2
  go_loop [3] (fun vi => ∃ k : Nat, k ≤ s.size ∧ vi = .int .i64 (k : Int) ∧ Hid ((s.data.toList.take k).all nmC = true)) (fun vi => s.size - (intOf vi).toNat)
  case atStart => exact ⟨0, by omega, rfl, rfl⟩
  case round =>
    obtain ⟨k, hk, rfl, HA⟩ := hrel
    by_cases hlt : k < s.size
    · have hby := byteAt s k hlt
      have hst := all_step (l := s.data.toList) (k := k) (by rw [← HS.out]; exact hlt)
      rw [← hby] at hst
      have hn46 : ((s[k].toNat : Int) != 46) = decide (s[k].toNat ≠ 46) := by rw [Bool.eq_iff_iff, bne_iff_ne, decide_eq_true_eq]; omega
      have hn95 : ((s[k].toNat : Int) != 95) = decide (s[k].toNat ≠ 95) := by rw [Bool.eq_iff_iff, bne_iff_ne, decide_eq_true_eq]; omega
      have hn45 : ((s[k].toNat : Int) != 45) = decide (s[k].toNat ≠ 45) := by rw [Bool.eq_iff_iff, bne_iff_ne, decide_eq_true_eq]; omega
      by_cases hc : nmC s[k] = true
      · have HT : Hid ((s.data.toList.take (k + 1)).all nmC = true) := by show _ = _; rw [hst, HA.out, hc]; rfl
        have hc' : (97 ≤ s[k].toNat ∧ s[k].toNat ≤ 122) ∨ (48 ≤ s[k].toNat ∧ s[k].toNat ≤ 57) ∨ s[k].toNat = 46 ∨ s[k].toNat = 95 ∨ s[k].toNat = 45 := by simpa [nmC] using hc
        clear hc hst hby
        by_cases c1 : 97 ≤ s[k].toNat ∧ s[k].toNat ≤ 122
        · obtain ⟨c1a, c1b⟩ := c1
          clear hc'
          rw [decide_eq_true (show s[k].toNat ≠ 46 by omega)] at hn46
          rw [decide_eq_true (show s[k].toNat ≠ 45 by omega)] at hn45
          clear hn95 hn46 hn45
          go_wp2
          refine ⟨⟨k + 1, by omega, by simp, HT⟩, ?_⟩
          simp [intOf]; omega
        · by_cases c2 : 48 ≤ s[k].toNat ∧ s[k].toNat ≤ 57
          · obtain ⟨c2a, c2b⟩ := c2
            clear hc' hn46 hn95 hn45 c1
            have c5 : s[k].toNat < 97 := by omega
            go_wp2
            refine ⟨⟨k + 1, by omega, by simp, HT⟩, ?_⟩
            simp [intOf]; omega
          · by_cases e46 : s[k].toNat = 46
            · rw [decide_eq_false (show ¬ s[k].toNat ≠ 46 by omega)] at hn46
              have c5 : s[k].toNat < 48 := by omega
              clear hc' c1 c2 e46 hn95 hn45
              go_wp2
              refine ⟨⟨k + 1, by omega, by simp, HT⟩, ?_⟩
              simp [intOf]; omega
            · rw [decide_eq_true (show s[k].toNat ≠ 46 by omega)] at hn46
              by_cases e95 : s[k].toNat = 95
              · rw [decide_eq_false (show ¬ s[k].toNat ≠ 95 by omega)] at hn95
                have c5 : s[k].toNat < 97 := by omega
                have c6 : 57 < s[k].toNat := by omega
                clear hc' c1 c2 e95 hn45 e46
                go_wp2
                refine ⟨⟨k + 1, by omega, by simp, HT⟩, ?_⟩
                simp [intOf]; omega
              · rw [decide_eq_true (show s[k].toNat ≠ 95 by omega)] at hn95
                have e45 : s[k].toNat = 45 := by omega
                rw [decide_eq_false (show ¬ s[k].toNat ≠ 45 by omega)] at hn45
                have c5 : s[k].toNat < 48 := by omega
                clear hc' c1 c2 e95 e45 e46
                go_wp2
                refine ⟨⟨k + 1, by omega, by simp, HT⟩, ?_⟩
                simp [intOf]; omega
      · have HF : Hid (val = false) := by
          show _ = _
          rw [HVal.out, nmR, all_bad (k := k) (by rw [← HS.out]; exact hlt) (by rw [← hby]; simpa using hc)]
          rfl
        have hc' : ¬ ((97 ≤ s[k].toNat ∧ s[k].toNat ≤ 122) ∨ (48 ≤ s[k].toNat ∧ s[k].toNat ≤ 57) ∨ s[k].toNat = 46 ∨ s[k].toNat = 95 ∨ s[k].toNat = 45) := by simpa [nmC] using hc
        rw [decide_eq_true (show s[k].toNat ≠ 46 by omega)] at hn46
        rw [decide_eq_true (show s[k].toNat ≠ 95 by omega)] at hn95
        rw [decide_eq_true (show s[k].toNat ≠ 45 by omega)] at hn45
        clear hc hst hby
        by_cases c1 : 97 ≤ s[k].toNat
        · have c2 : 122 < s[k].toNat := by omega
          have d1 : decide ((s[k].toNat : Int) ≤ 122) = false := decide_eq_false (by omega)
          have d2 : decide ((s[k].toNat : Int) ≤ 57) = false := decide_eq_false (by omega)
          clear hc'
          go_wp2
          all_goals (go_ret; exact ⟨by rw [HF.out]; rfl, rfl⟩)
        · have c5 : s[k].toNat < 97 := by omega
          by_cases c3 : 48 ≤ s[k].toNat
          · have c4 : 57 < s[k].toNat := by omega
            have d2 : decide ((s[k].toNat : Int) ≤ 57) = false := decide_eq_false (by omega)
            clear hc' c1
            go_wp2
            all_goals (go_ret; exact ⟨by rw [HF.out]; rfl, rfl⟩)
          · have c6 : s[k].toNat < 48 := by omega
            clear hc' c1 c3 c5
            go_wp2
            all_goals (go_ret; exact ⟨by rw [HF.out]; rfl, rfl⟩)
    · have HE : Hid (val = (decide (1 ≤ s.size) && decide (s.size ≤ 24))) := by
        show _ = _
        have := HA.out
        rw [List.take_of_length_le (by rw [← HS.out]; omega)] at this
        rw [HVal.out, nmR, this, ← HS.out]
        simp
      by_cases s1 : 1 ≤ s.size
      · have HF : Hid (val = decide ((s.size : Int) ≤ 24)) := by
          show _ = _
          rw [HE.out, Bool.eq_iff_iff]
          simp only [Bool.and_eq_true, decide_eq_true_eq]
          omega
        go_wp2
        all_goals (go_ret; exact ⟨by rw [HF.out]; rfl, rfl⟩)
      · have HF : Hid (val = false) := by show _ = _; rw [HE.out]; simp [s1]
        go_wp2
        all_goals (go_ret; exact ⟨by rw [HF.out]; rfl, rfl⟩)

end Go.Proofs.YtgoiefhhbgollaaGreatDoor
