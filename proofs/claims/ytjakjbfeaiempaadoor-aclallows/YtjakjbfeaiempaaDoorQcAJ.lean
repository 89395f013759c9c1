/- What acl's small functions answer: mayStand, isName, and the functions of the rows of schemes. -/
import Derived.Test.YtjakjbfeaiempaaDoorQaDJ
import Derived.Lib.OthersKept
import Derived.BigQuiet
import Derived.Deep.QuietTactic
namespace Go.Proofs.YtjakjbfeaiempaaDoor
open Go.RowKit Go.Shelf
set_option maxRecDepth 8000

def stI (c : Int) : Bool := decide ((97 ≤ c ∧ c ≤ 122) ∨ (48 ≤ c ∧ c ≤ 57) ∨ c = 46 ∨ c = 95 ∨ c = 45)

theorem stI_nmC (b : UInt8) : stI (b.toNat : Int) = nmC b := by
  unfold stI nmC
  rw [decide_eq_decide]
  omega

theorem stI_high (c : Nat) (h : 128 ≤ c) : stI (c : Int) = false := by
  unfold stI
  simp
  omega

theorem nmC_high (b : UInt8) (h : 128 ≤ b.toNat) : nmC b = false := by
  rw [← stI_nmC, stI_high _ h]

theorem dec_high (b : UInt8) (c : Bs) (h : 128 ≤ b.toNat) : 128 ≤ (dec (b :: c)).1 := by
  unfold dec
  simp only [List.getD_cons_zero]
  rw [if_neg (by omega)]
  split
  · split
    · assumption
    · decide
  · split
    · split
      · rename_i h2; simp only [Bool.and_eq_true, decide_eq_true_eq] at h2; simp only; omega
      · decide
    · split
      · split
        · rename_i h2; simp only [Bool.and_eq_true, decide_eq_true_eq] at h2; simp only; omega
        · decide
      · decide

set_option maxHeartbeats 1000000 in
theorem aclStand (c : Int) (w : World) : Calls Tryd.prog 80 #[.int .i32 c] w fun e w' => e = .returned (.bool (stI c)) ∧ w' = w := by
  go_enter Tryd.func80, Tryd.ntmps80
  go_wp2
  all_goals (go_ret; refine ⟨?_, rfl⟩; refine congrArg (fun b => Ending.returned (Value.bool b)) ?_; unfold stI)
  all_goals first | rfl | exact (decide_eq_true (by omega)).symm | (rw [Bool.eq_iff_iff]; simp only [decide_eq_true_eq, Bool.or_eq_true, beq_iff_eq]; omega)

theorem below_itr (w : World) (s : ByteArray) (p : Nat) : Below w.heap.size w (w.iter s p) := (Below.refl _ w).alloc (Nat.le_refl _) _

set_option maxHeartbeats 1000000 in
theorem aclIsName (s : ByteArray) (w : World) : Calls Tryd.prog 68 #[.string s] w fun e w' => e = .returned (.bool (nmR s.data.toList)) ∧ Below w.heap.size w w' := by
  have hl := size_list s
  by_cases h0 : s.size < 1 ∨ 24 < s.size
  · have HE : Hid (nmR s.data.toList = false) := by
      show _ = _
      unfold nmR
      rw [decide_eq_false (by omega), Bool.and_false]
    have HB : Hid (Below w.heap.size w w) := Below.refl _ _
    rcases h0 with h0 | h0
    · have d1 : decide ((s.size : Int) < 1) = true := by simp; omega
      clear hl
      go_enter Tryd.func68, Tryd.ntmps68
      go_wp2
      all_goals (go_ret; exact ⟨by rw [HE.out]; rfl, HB.out⟩)
    · have d1 : decide ((s.size : Int) < 1) = false := by simp; omega
      have d2 : decide (24 < (s.size : Int)) = true := by simp; omega
      clear hl
      go_enter Tryd.func68, Tryd.ntmps68
      go_wp2
      all_goals (go_ret; exact ⟨by rw [HE.out]; rfl, HB.out⟩)
  · have h1 : ¬ s.size < 1 := fun h => h0 (.inl h)
    have h2 : ¬ 24 < s.size := fun h => h0 (.inr h)
    have d1 : decide ((s.size : Int) < 1) = false := by simp; omega
    have d2 : decide (24 < (s.size : Int)) = false := by simp; omega
    have HZ : Hid (s.size = s.data.toList.length) := hl
    clear hl
    have HS : Hid (∀ (c : Int) (V : World), Calls Tryd.prog 80 #[.int .i32 c] V fun e w' => e = .returned (.bool (stI c)) ∧ w' = V) := aclStand
    go_enter Tryd.func68, Tryd.ntmps68
    go_wp2
    go_loopw [2] (fun _ wr => ∃ pos : Nat, wr = w.iter s pos ∧ pos ≤ s.size ∧ Hid ((s.data.toList.take pos).all nmC = true)) (fun _ wr => s.size - wr.iterPos w.heap.size)
    case atStart => exact ⟨0, rfl, Nat.zero_le _, by show _ = _; simp⟩
    case round =>
      obtain ⟨pos, rfl, hle, HR⟩ := hrel
      by_cases hp : pos < s.size
      · have hnx : ∀ ty, (Instr.next (.pointer (some ⟨w.heap.size, 0, none⟩)) true ty).run Tryd.prog (w.iter s pos) = _ := fun ty => run_next_any w s pos ty hp
        obtain ⟨b, hb⟩ : ∃ b, b = s.data.toList.getD pos 0 := ⟨_, rfl⟩
        have hcons : s.data.toList.drop pos = b :: s.data.toList.drop (pos + 1) := by
          rw [List.drop_eq_getElem_cons (by have := HZ.out; omega), hb, List.getD_eq_getElem?_getD, List.getElem?_eq_getElem (by have := HZ.out; omega)]
          rfl
        have hpos0 := World.iterPos_iter w s pos
        cases hst : nmC b with
        | true =>
          have h128 : b.toNat < 128 := by
            apply Nat.lt_of_not_le
            intro h
            rw [nmC_high b h] at hst
            cases hst
          have hdec : Utf8.decode s pos = (b.toNat, 1) := by rw [decode_dec, hcons, dec_ascii b _ h128]
          have HN : Hid ((s.data.toList.take (pos + 1)).all nmC = true) := by
            show _ = _
            rw [all_step (by have := HZ.out; omega), HR.out, ← hb, hst]; rfl
          have hpos1 := World.iterPos_iter w s (pos + 1)
          have HST : Hid (stI (b.toNat : Int) = true) := by show _ = _; rw [stI_nmC, hst]
          simp only [hdec] at hnx
          clear hcons hdec hb hst
          go_wp2_with fail
          refine (HS.out _ _).mono ?_
          rintro e w1 ⟨rfl, rfl⟩
          rw [HST.out]
          go_wp2
          go_roundw
          case rel => exact ⟨_, rfl, by omega, HN⟩
          case measure => rw [hpos0, hpos1]; omega
        | false =>
          have HE : Hid (nmR s.data.toList = false) := by
            show _ = _
            unfold nmR
            rw [all_bad (k := pos) (by have := HZ.out; omega) (by rw [← hb]; exact hst)]
            rfl
          have HST : Hid (stI ((Utf8.decode s pos).1 : Int) = false) := by
            show _ = _
            rw [decode_dec, hcons]
            by_cases h128 : b.toNat < 128
            · rw [dec_ascii b _ h128]
              show stI (b.toNat : Int) = false
              rw [stI_nmC, hst]
            · exact stI_high _ (dec_high b _ (by omega))
          clear hcons hb hst
          go_wp2_with fail
          refine (HS.out _ _).mono ?_
          rintro e w1 ⟨rfl, rfl⟩
          rw [HST.out]
          go_wp2
          all_goals (go_ret; exact ⟨by rw [HE.out]; rfl, below_itr w s _⟩)
      · have hnx : ∀ ty, (Instr.next (.pointer (some ⟨w.heap.size, 0, none⟩)) true ty).run Tryd.prog (w.iter s pos) = _ := fun ty => run_next_end w s pos ty hp
        have HE : Hid (nmR s.data.toList = true) := by
          show _ = _
          have := HR.out
          rw [List.take_of_length_le (by have := HZ.out; omega)] at this
          unfold nmR
          rw [this, decide_eq_true (by have := HZ.out; omega)]
          rfl
        go_wp2
        all_goals (go_ret; exact ⟨by rw [HE.out]; rfl, below_itr w s _⟩)

theorem listB (s : ByteArray) : s.toList = s.data.toList := Lib.toList_data s

theorem isNone_any (s : ByteArray) (w : World) : Calls Tryd.prog 54 #[.string s] w fun e w' => e = .returned (.bool false) ∧ w' = w := by
  go_enter Tryd.func54, Tryd.ntmps54
  go_wp2
  all_goals (go_ret; exact ⟨rfl, rfl⟩)

theorem isSame_any (s t : ByteArray) (w : World) : Calls Tryd.prog 69 #[.string s, .string t] w fun e w' => e = .returned (.bool (decide (s.data.toList = t.data.toList))) ∧ w' = w := by
  have hb : (s.toList == t.toList) = decide (s.data.toList = t.data.toList) := by
    rw [listB s, listB t]
    by_cases h : s.data.toList = t.data.toList
    · rw [h]; simp
    · rw [decide_eq_false h]; simpa using h
  cases hd : decide (s.data.toList = t.data.toList)
  · rw [hd] at hb
    clear hd
    go_enter Tryd.func69, Tryd.ntmps69
    go_wp2
    all_goals (go_ret; exact ⟨rfl, rfl⟩)
  · rw [hd] at hb
    clear hd
    go_enter Tryd.func69, Tryd.ntmps69
    go_wp2
    all_goals (go_ret; exact ⟨rfl, rfl⟩)

theorem byEach_any (s a b : ByteArray) (w : World) : Calls Tryd.prog 63 #[.string s, .agg #[.string a, .string b]] w fun e w' => e = .returned (.bool true) ∧ Below w.heap.size w w' := by
  have HB : Hid (Below w.heap.size w (w.alloc (.cells #[.string a, .string b] 37))) := (Below.refl _ w).alloc (Nat.le_refl _) _
  go_enter Tryd.func63, Tryd.ntmps63
  go_wp2
  all_goals (go_ret; exact ⟨rfl, HB.out⟩)

theorem byNobody_any (s a b : ByteArray) (w : World) : Calls Tryd.prog 55 #[.string s, .agg #[.string a, .string b]] w fun e w' => e = .returned (.bool false) ∧ Below w.heap.size w w' := by
  have HB : Hid (Below w.heap.size w (w.alloc (.cells #[.string a, .string b] 37))) := (Below.refl _ w).alloc (Nat.le_refl _) _
  go_enter Tryd.func55, Tryd.ntmps55
  go_wp2
  all_goals (go_ret; exact ⟨rfl, HB.out⟩)

theorem only1_any (s o : ByteArray) (c : Nat) (w : World) (hc : w.cell? ⟨c, 0, none⟩ = some (.string o)) : Calls Tryd.prog 75 #[.string s, .pointer (some ⟨c, 0, none⟩)] w fun e w' => e = .returned (.bool (decide (s.data.toList = o.data.toList))) ∧ w' = w := by
  have hb : (s.toList == o.toList) = decide (s.data.toList = o.data.toList) := by
    rw [listB s, listB o]
    by_cases h : s.data.toList = o.data.toList
    · rw [h]; simp
    · rw [decide_eq_false h]; simpa using h
  cases hd : decide (s.data.toList = o.data.toList)
  · rw [hd] at hb
    clear hd
    go_enter Tryd.func75, Tryd.ntmps75
    go_wp2
    all_goals (go_ret; exact ⟨rfl, rfl⟩)
  · rw [hd] at hb
    clear hd
    go_enter Tryd.func75, Tryd.ntmps75
    go_wp2
    all_goals (go_ret; exact ⟨rfl, rfl⟩)

end Go.Proofs.YtjakjbfeaiempaaDoor
