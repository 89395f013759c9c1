/- What acl's small functions answer: mayStand, isName, and the functions of the rows of schemes. -/
import Derived.Test.YtgoiefhhbgollaaGreatDoorQbMJ
import Derived.Test.YtgoiefhhbgollaaGreatDoorQaDJ
import Derived.Lib.OthersKept
import Derived.BigQuiet
import Derived.Deep.QuietTactic
namespace Go.Proofs.YtgoiefhhbgollaaGreatDoor
open Go.RowKit Go.Shelf
set_option maxRecDepth 8000

def stI (c : Int) : Bool := decide ((97 ≤ c ∧ c ≤ 122) ∨ (48 ≤ c ∧ c ≤ 57) ∨ c = 46 ∨ c = 95 ∨ c = 45)

theorem stI_nmC (b : UInt8) : stI (b.toNat : Int) = nmC b := by
  unfold stI nmC
  rw [decide_eq_decide]
  omega

theorem stI_high (c : Nat) (h : 128 ≤ c) : stI (c : Int) = false := by
  unfold stI
  simp
  omega

theorem nmC_high (b : UInt8) (h : 128 ≤ b.toNat) : nmC b = false := by
  rw [← stI_nmC, stI_high _ h]

theorem dec_high (b : UInt8) (c : Bs) (h : 128 ≤ b.toNat) : 128 ≤ (dec (b :: c)).1 := by
  unfold dec
  simp only [List.getD_cons_zero]
  rw [if_neg (by omega)]
  split
  · split
    · assumption
    · decide
  · split
    · split
      · rename_i h2; simp only [Bool.and_eq_true, decide_eq_true_eq] at h2; simp only; omega
      · decide
    · split
      · split
        · rename_i h2; simp only [Bool.and_eq_true, decide_eq_true_eq] at h2; simp only; omega
        · decide
      · decide

set_option maxHeartbeats 1000000 in
theorem aclStand (c : Int) (w : World) : Calls Tryz.prog 127 #[.int .i32 c] w fun e w' => e = .returned (.bool (stI c)) ∧ w' = w := by
  go_enter Tryz.func127, Tryz.ntmps127
  go_wp2
  all_goals (go_ret; refine ⟨?_, rfl⟩; refine congrArg (fun b => Ending.returned (Value.bool b)) ?_; unfold stI)
  all_goals first | rfl | exact (decide_eq_true (by omega)).symm | (rw [Bool.eq_iff_iff]; simp only [decide_eq_true_eq, Bool.or_eq_true, beq_iff_eq]; omega)

theorem below_itr (w : World) (s : ByteArray) (p : Nat) : Below w.heap.size w (w.iter s p) := (Below.refl _ w).alloc (Nat.le_refl _) _

set_option maxHeartbeats 1000000 in
theorem aclIsName (s : ByteArray) (w : World) : Calls Tryz.prog 115 #[.string s] w fun e w' => e = .returned (.bool (nmR s.data.toList)) ∧ Below w.heap.size w w' := by
  have hl := size_list s
  by_cases h0 : s.size < 1 ∨ 24 < s.size
  · have HE : Hid (nmR s.data.toList = false) := by
      show _ = _
      unfold nmR
      rw [decide_eq_false (by omega), Bool.and_false]
    have HB : Hid (Below w.heap.size w w) := Below.refl _ _
    rcases h0 with h0 | h0
    · have d1 : decide ((s.size : Int) < 1) = true := by simp; omega
      clear hl
      go_enter Tryz.func115, Tryz.ntmps115
      go_wp2
      all_goals (go_ret; exact ⟨by rw [HE.out]; rfl, HB.out⟩)
    · have d1 : decide ((s.size : Int) < 1) = false := by simp; omega
      have d2 : decide (24 < (s.size : Int)) = true := by simp; omega
      clear hl
      go_enter Tryz.func115, Tryz.ntmps115
      go_wp2
      all_goals (go_ret; exact ⟨by rw [HE.out]; rfl, HB.out⟩)
  · have h1 : ¬ s.size < 1 := fun h => h0 (.inl h)
    have h2 : ¬ 24 < s.size := fun h => h0 (.inr h)
    have d1 : decide ((s.size : Int) < 1) = false := by simp; omega
    have d2 : decide (24 < (s.size : Int)) = false := by simp; omega
    have HZ : Hid (s.size = s.data.toList.length) := hl
    clear hl
    have HS : Hid (∀ (c : Int) (V : World), Calls Tryz.prog 127 #[.int .i32 c] V fun e w' => e = .returned (.bool (stI c)) ∧ w' = V) := aclStand
    go_enter Tryz.func115, Tryz.ntmps115
    go_wp2
    go_loopw [2] (fun _ wr => ∃ pos : Nat, wr = w.iter s pos ∧ pos ≤ s.size ∧ Hid ((s.data.toList.take pos).all nmC = true)) (fun _ wr => s.size - wr.iterPos w.heap.size)
    case atStart => exact ⟨0, rfl, Nat.zero_le _, by show _ = _; simp⟩
    case round =>
      obtain ⟨pos, rfl, hle, HR⟩ := hrel
      by_cases hp : pos < s.size
      · have hnx : ∀ ty, (Instr.next (.pointer (some ⟨w.heap.size, 0, none⟩)) true ty).run Tryz.prog (w.iter s pos) = _ := fun ty => run_next_any w s pos ty hp
        obtain ⟨b, hb⟩ : ∃ b, b = s.data.toList.getD pos 0 := ⟨_, rfl⟩
        have hcons : s.data.toList.drop pos = b :: s.data.toList.drop (pos + 1) := by
          rw [List.drop_eq_getElem_cons (by have := HZ.out; omega), hb, List.getD_eq_getElem?_getD, List.getElem?_eq_getElem (by have := HZ.out; omega)]
          rfl
        have hpos0 := World.iterPos_iter w s pos
        cases hst : nmC b with
        | true =>
          have h128 : b.toNat < 128 := by
            apply Nat.lt_of_not_le
            intro h
            rw [nmC_high b h] at hst
            cases hst
          have hdec : Utf8.decode s pos = (b.toNat, 1) := by rw [decode_dec, hcons, dec_ascii b _ h128]
          have HN : Hid ((s.data.toList.take (pos + 1)).all nmC = true) := by
            show _ = _
            rw [all_step (by have := HZ.out; omega), HR.out, ← hb, hst]; rfl
          have hpos1 := World.iterPos_iter w s (pos + 1)
          have HST : Hid (stI (b.toNat : Int) = true) := by show _ = _; rw [stI_nmC, hst]
          simp only [hdec] at hnx
          clear hcons hdec hb hst
          go_wp2_with fail
          refine (HS.out _ _).mono ?_
          rintro e w1 ⟨rfl, rfl⟩
          rw [HST.out]
          go_wp2
          go_roundw
          case rel => exact ⟨_, rfl, by omega, HN⟩
          case measure => rw [hpos0, hpos1]; omega
        | false =>
          have HE : Hid (nmR s.data.toList = false) := by
            show _ = _
            unfold nmR
            rw [all_bad (k := pos) (by have := HZ.out; omega) (by rw [← hb]; exact hst)]
            rfl
          have HST : Hid (stI ((Utf8.decode s pos).1 : Int) = false) := by
            show _ = _
            rw [decode_dec, hcons]
            by_cases h128 : b.toNat < 128
            · rw [dec_ascii b _ h128]
              show stI (b.toNat : Int) = false
              rw [stI_nmC, hst]
            · exact stI_high _ (dec_high b _ (by omega))
          clear hcons hb hst
          go_wp2_with fail
          refine (HS.out _ _).mono ?_
          rintro e w1 ⟨rfl, rfl⟩
          rw [HST.out]
          go_wp2
          all_goals (go_ret; exact ⟨by rw [HE.out]; rfl, below_itr w s _⟩)
      · have hnx : ∀ ty, (Instr.next (.pointer (some ⟨w.heap.size, 0, none⟩)) true ty).run Tryz.prog (w.iter s pos) = _ := fun ty => run_next_end w s pos ty hp
        have HE : Hid (nmR s.data.toList = true) := by
          show _ = _
          have := HR.out
          rw [List.take_of_length_le (by have := HZ.out; omega)] at this
          unfold nmR
          rw [this, decide_eq_true (by have := HZ.out; omega)]
          rfl
        go_wp2
        all_goals (go_ret; exact ⟨by rw [HE.out]; rfl, below_itr w s _⟩)

theorem listB (s : ByteArray) : s.toList = s.data.toList := Lib.toList_data s

theorem isNone_any (s : ByteArray) (w : World) : Calls Tryz.prog 103 #[.string s] w fun e w' => e = .returned (.bool false) ∧ w' = w := by
  go_enter Tryz.func103, Tryz.ntmps103
  go_wp2
  all_goals (go_ret; exact ⟨rfl, rfl⟩)

theorem isSame_any (s t : ByteArray) (w : World) : Calls Tryz.prog 116 #[.string s, .string t] w fun e w' => e = .returned (.bool (decide (s.data.toList = t.data.toList))) ∧ w' = w := by
  have hb : (s.toList == t.toList) = decide (s.data.toList = t.data.toList) := by
    rw [listB s, listB t]
    by_cases h : s.data.toList = t.data.toList
    · rw [h]; simp
    · rw [decide_eq_false h]; simpa using h
  cases hd : decide (s.data.toList = t.data.toList)
  · rw [hd] at hb
    clear hd
    go_enter Tryz.func116, Tryz.ntmps116
    go_wp2
    all_goals (go_ret; exact ⟨rfl, rfl⟩)
  · rw [hd] at hb
    clear hd
    go_enter Tryz.func116, Tryz.ntmps116
    go_wp2
    all_goals (go_ret; exact ⟨rfl, rfl⟩)

theorem byEach_any (s a b : ByteArray) (w : World) : Calls Tryz.prog 110 #[.string s, .agg #[.string a, .string b]] w fun e w' => e = .returned (.bool true) ∧ Below w.heap.size w w' := by
  have HB : Hid (Below w.heap.size w (w.alloc (.cells #[.string a, .string b] 37))) := (Below.refl _ w).alloc (Nat.le_refl _) _
  go_enter Tryz.func110, Tryz.ntmps110
  go_wp2
  all_goals (go_ret; exact ⟨rfl, HB.out⟩)

theorem byNobody_any (s a b : ByteArray) (w : World) : Calls Tryz.prog 104 #[.string s, .agg #[.string a, .string b]] w fun e w' => e = .returned (.bool false) ∧ Below w.heap.size w w' := by
  have HB : Hid (Below w.heap.size w (w.alloc (.cells #[.string a, .string b] 37))) := (Below.refl _ w).alloc (Nat.le_refl _) _
  go_enter Tryz.func104, Tryz.ntmps104
  go_wp2
  all_goals (go_ret; exact ⟨rfl, HB.out⟩)

theorem only1_any (s o : ByteArray) (c : Nat) (w : World) (hc : w.cell? ⟨c, 0, none⟩ = some (.string o)) : Calls Tryz.prog 122 #[.string s, .pointer (some ⟨c, 0, none⟩)] w fun e w' => e = .returned (.bool (decide (s.data.toList = o.data.toList))) ∧ w' = w := by
  have hb : (s.toList == o.toList) = decide (s.data.toList = o.data.toList) := by
    rw [listB s, listB o]
    by_cases h : s.data.toList = o.data.toList
    · rw [h]; simp
    · rw [decide_eq_false h]; simpa using h
  cases hd : decide (s.data.toList = o.data.toList)
  · rw [hd] at hb
    clear hd
    go_enter Tryz.func122, Tryz.ntmps122
    go_wp2
    all_goals (go_ret; exact ⟨rfl, rfl⟩)
  · rw [hd] at hb
    clear hd
    go_enter Tryz.func122, Tryz.ntmps122
    go_wp2
    all_goals (go_ret; exact ⟨rfl, rfl⟩)

end Go.Proofs.YtgoiefhhbgollaaGreatDoor

/- What acl's schemeOf answers for the schemes beside ip, and for a text that is none. -/
namespace Go.Proofs.YtgoiefhhbgollaaGreatDoor
open Go.RowKit Go.Shelf
set_option maxRecDepth 8000

theorem rows_at2 (c : Nat) (W : World) : (Instr.index 195 (.agg (rowsV c).toArray) (.int .i64 2)).run Tryz.prog W = .ok (.agg #[.string nameB, fnV 115, fnV 115, fn2 125 (c + 3)]) W := by
  kernel_rfl

theorem rows_at3 (c : Nat) (W : World) : (Instr.index 195 (.agg (rowsV c).toArray) (.int .i64 3)).run Tryz.prog W = .ok (.agg #[.string authB, fnV 103, fn1 122 (c + 5), fnV 104]) W := by
  kernel_rfl

set_option maxHeartbeats 2000000 in
theorem schemeOf_world (nm : ByteArray) (w : World) : Calls Tryz.prog 95 #[.agg #[.string worldB, .string nm]] w fun e w' => ∃ c, e = .returned (.agg #[.string worldB, fnV 103, fn1 122 c, fnV 110]) ∧ Below w.heap.size w w' ∧ Cau c w' ∧ w.heap.size ≤ c ∧ c + 6 ≤ w'.heap.size := by
  have HS : Hid (∀ V : World, Calls Tryz.prog 102 #[] V fun e w' => e = .returned (.agg (rowsV (V.heap.size + 1)).toArray) ∧ Below V.heap.size V w' ∧ Cau (V.heap.size + 1) w' ∧ V.heap.size + 7 ≤ w'.heap.size) := schemes_any
  have hsf := store_func
  have hr0 := rows_at0
  have hr1 := rows_at1
  have hr2 := rows_at2
  have hr3 := rows_at3
  go_enter Tryz.func95, Tryz.ntmps95
  go_wp2_with fail
  refine (HS.out _).mono ?_
  rintro e w1 ⟨rfl, hB1, hC1, hz1⟩
  obtain ⟨V, hV⟩ : ∃ V, V = (w.alloc (.cells #[.string worldB, .string nm] 37)).alloc (.cells #[.string ⟨#[]⟩, .nilFunc, .nilFunc, .nilFunc] 187) := ⟨_, rfl⟩
  have v0 : V.heap[w.heap.size]? = some (.cells #[.string worldB, .string nm] 37 (0, 0)) := by
    rw [hV, Below.heap_alloc _ _ _ (by simp only [World.size_alloc]; omega)]; exact alloc_newq rfl
  have v1 : V.heap[w.heap.size + 1]? = some (.cells #[.string ⟨#[]⟩, .nilFunc, .nilFunc, .nilFunc] 187 (0, 0)) := by
    rw [hV]; exact alloc_newq (by simp only [World.size_alloc])
  have vB : Below w.heap.size w V := by rw [hV]; exact ((Below.refl _ w).alloc (Nat.le_refl _) _).alloc (by simp only [World.size_alloc]; omega) _
  have vz : V.heap.size = w.heap.size + 2 := by rw [hV]; simp only [World.size_alloc]
  rw [← hV] at hB1 hC1 hz1
  have HA : Hid (w1.heap[w.heap.size]? = some (.cells #[.string worldB, .string nm] 37 (0, 0)) ∧ w1.heap[w.heap.size + 1]? = some (.cells #[.string ⟨#[]⟩, .nilFunc, .nilFunc, .nilFunc] 187 (0, 0)) ∧ Below w.heap.size w w1 ∧ Cau (w.heap.size + 3) w1 ∧ w.heap.size + 9 ≤ w1.heap.size) := by
    refine ⟨(hB1.block _ (by omega)).trans v0, (hB1.block _ (by omega)).trans v1, vB.trans (hB1.mono (by omega)), ?_, by omega⟩
    rw [vz] at hC1
    exact hC1
  clear hB1 hC1 hz1 v0 v1 vB vz hV
  go_wp2
  go_loopw [6] (fun vi wr => ∃ (k : Nat), k ≤ 0 ∧ vi = .int .i64 (k : Int) ∧ Hid (Below w1.heap.size w1 wr)) (fun vi _ => 4 - (intOf vi).toNat)
  case atStart => exact ⟨0, by omega, rfl, Below.refl _ _⟩
  case round =>
    obtain ⟨k, hk, rfl, HB⟩ := hrel
    have q0 : wr.heap[w.heap.size]? = some (.cells #[.string worldB, .string nm] 37 (0, 0)) := (HB.out.block _ (by have := HA.out.2.2.2.2; omega)).trans HA.out.1
    have q1 : wr.heap[w.heap.size + 1]? = some (.cells #[.string ⟨#[]⟩, .nilFunc, .nilFunc, .nilFunc] 187 (0, 0)) := (HB.out.block _ (by have := HA.out.2.2.2.2; omega)).trans HA.out.2.1
    have hlt : w.heap.size + 1 < wr.heap.size := lt_of_block q1
    have hlt0 : w.heap.size < wr.heap.size := by omega
    have i0 : wr.cell? ⟨w.heap.size, 0, none⟩ = some (.string worldB) := cell_of_row wr w.heap.size 0 _ _ _ q0
    obtain ⟨⟨y0, y1, y2, y3⟩, f0, f1, f2, f3⟩ := cells4 q1
    have hk2 : k = 0 := by omega
    rcases hk2 with rfl
    · have HQ : Hid (wr.heap[w.heap.size + 1]? = some (.cells #[.string ⟨#[]⟩, .nilFunc, .nilFunc, .nilFunc] 187 (0, 0))) := q1
      clear q0 q1
      go_wp2
      obtain ⟨p0, p1, p2, p3⟩ := set4_at (a := (.string worldB)) (b := (fnV 103)) (c := (fn1 122 (w.heap.size + 3))) (d := (fnV 110)) HQ.out
      have hB : Below w.heap.size w wr := HA.out.2.2.1.trans (HB.out.mono HA.out.2.2.1.size)
      have hz : w.heap.size + 9 ≤ wr.heap.size := by have := HB.out.size; have := HA.out.2.2.2.2; omega
      obtain ⟨X, hX⟩ : ∃ X, X = (set4 (w.heap.size + 1) (.string worldB) (fnV 103) (fn1 122 (w.heap.size + 3)) (fnV 110) wr).alloc (.cells #[.string worldB, fnV 103, fn1 122 (w.heap.size + 3), fnV 110] 187) := ⟨_, rfl⟩
      have x1 : X.heap[w.heap.size + 1]? = some (.cells #[.string worldB, fnV 103, fn1 122 (w.heap.size + 3), fnV 110] 187 (0, 0)) := by
        rw [hX, Below.heap_alloc _ _ _ (by rw [p2]; omega)]; exact p0
      have xk : ∀ k, k ≠ w.heap.size + 1 → k < wr.heap.size → X.heap[k]? = wr.heap[k]? := fun k hk hl => by
        rw [hX, Below.heap_alloc _ _ _ (by rw [p2]; exact hl)]; exact p1 k hk
      have xB : Below w.heap.size w X := by
        rw [hX]; exact (p3 _ _ (by omega) hB).alloc (by rw [p2]; omega) _
      have xz : X.heap.size = wr.heap.size + 1 := by rw [hX, World.size_alloc, p2]
      have hC := HA.out.2.2.2.1
      have xC : Cau (w.heap.size + 3) X := by
        have hCr : Cau (w.heap.size + 3) wr := hC.below HB.out (by have := HA.out.2.2.2.2; omega)
        exact ⟨(xk _ (by omega) (by omega)).trans hCr.1, (xk _ (by omega) (by omega)).trans hCr.2.1, (xk _ (by omega) (by omega)).trans hCr.2.2.1, (xk _ (by omega) (by omega)).trans hCr.2.2.2.1, (xk _ (by omega) (by omega)).trans hCr.2.2.2.2.1, (xk _ (by omega) (by omega)).trans hCr.2.2.2.2.2⟩
      obtain ⟨⟨m0, m1, m2, m3⟩, _⟩ := cells4 x1
      show bodyPost _ _ _ _ _ ((set4 (w.heap.size + 1) (.string worldB) (fnV 103) (fn1 122 (w.heap.size + 3)) (fnV 110) wr).alloc (.cells #[.string worldB, fnV 103, fn1 122 (w.heap.size + 3), fnV 110] 187))
      rw [← hX]
      refine bodyPost_ret (results_so _ (w.heap.size + 1) _ rfl m0 m1 m2 m3) rfl ?_
      exact ⟨w.heap.size + 3, rfl, xB, xC, by omega, by omega⟩

set_option maxHeartbeats 2000000 in
theorem schemeOf_name (nm : ByteArray) (w : World) : Calls Tryz.prog 95 #[.agg #[.string nameB, .string nm]] w fun e w' => ∃ c, e = .returned (.agg #[.string nameB, fnV 115, fnV 115, fn2 125 (c + 3)]) ∧ Below w.heap.size w w' ∧ Cau c w' ∧ w.heap.size ≤ c ∧ c + 6 ≤ w'.heap.size := by
  have HS : Hid (∀ V : World, Calls Tryz.prog 102 #[] V fun e w' => e = .returned (.agg (rowsV (V.heap.size + 1)).toArray) ∧ Below V.heap.size V w' ∧ Cau (V.heap.size + 1) w' ∧ V.heap.size + 7 ≤ w'.heap.size) := schemes_any
  have hsf := store_func
  have hr0 := rows_at0
  have hr1 := rows_at1
  have hr2 := rows_at2
  have hr3 := rows_at3
  go_enter Tryz.func95, Tryz.ntmps95
  go_wp2_with fail
  refine (HS.out _).mono ?_
  rintro e w1 ⟨rfl, hB1, hC1, hz1⟩
  obtain ⟨V, hV⟩ : ∃ V, V = (w.alloc (.cells #[.string nameB, .string nm] 37)).alloc (.cells #[.string ⟨#[]⟩, .nilFunc, .nilFunc, .nilFunc] 187) := ⟨_, rfl⟩
  have v0 : V.heap[w.heap.size]? = some (.cells #[.string nameB, .string nm] 37 (0, 0)) := by
    rw [hV, Below.heap_alloc _ _ _ (by simp only [World.size_alloc]; omega)]; exact alloc_newq rfl
  have v1 : V.heap[w.heap.size + 1]? = some (.cells #[.string ⟨#[]⟩, .nilFunc, .nilFunc, .nilFunc] 187 (0, 0)) := by
    rw [hV]; exact alloc_newq (by simp only [World.size_alloc])
  have vB : Below w.heap.size w V := by rw [hV]; exact ((Below.refl _ w).alloc (Nat.le_refl _) _).alloc (by simp only [World.size_alloc]; omega) _
  have vz : V.heap.size = w.heap.size + 2 := by rw [hV]; simp only [World.size_alloc]
  rw [← hV] at hB1 hC1 hz1
  have HA : Hid (w1.heap[w.heap.size]? = some (.cells #[.string nameB, .string nm] 37 (0, 0)) ∧ w1.heap[w.heap.size + 1]? = some (.cells #[.string ⟨#[]⟩, .nilFunc, .nilFunc, .nilFunc] 187 (0, 0)) ∧ Below w.heap.size w w1 ∧ Cau (w.heap.size + 3) w1 ∧ w.heap.size + 9 ≤ w1.heap.size) := by
    refine ⟨(hB1.block _ (by omega)).trans v0, (hB1.block _ (by omega)).trans v1, vB.trans (hB1.mono (by omega)), ?_, by omega⟩
    rw [vz] at hC1
    exact hC1
  clear hB1 hC1 hz1 v0 v1 vB vz hV
  go_wp2
  go_loopw [6] (fun vi wr => ∃ (k : Nat), k ≤ 2 ∧ vi = .int .i64 (k : Int) ∧ Hid (Below w1.heap.size w1 wr)) (fun vi _ => 4 - (intOf vi).toNat)
  case atStart => exact ⟨0, by omega, rfl, Below.refl _ _⟩
  case round =>
    obtain ⟨k, hk, rfl, HB⟩ := hrel
    have q0 : wr.heap[w.heap.size]? = some (.cells #[.string nameB, .string nm] 37 (0, 0)) := (HB.out.block _ (by have := HA.out.2.2.2.2; omega)).trans HA.out.1
    have q1 : wr.heap[w.heap.size + 1]? = some (.cells #[.string ⟨#[]⟩, .nilFunc, .nilFunc, .nilFunc] 187 (0, 0)) := (HB.out.block _ (by have := HA.out.2.2.2.2; omega)).trans HA.out.2.1
    have hlt : w.heap.size + 1 < wr.heap.size := lt_of_block q1
    have hlt0 : w.heap.size < wr.heap.size := by omega
    have i0 : wr.cell? ⟨w.heap.size, 0, none⟩ = some (.string nameB) := cell_of_row wr w.heap.size 0 _ _ _ q0
    obtain ⟨⟨y0, y1, y2, y3⟩, f0, f1, f2, f3⟩ := cells4 q1
    have hk2 : k = 0 ∨ k = 1 ∨ k = 2 := by omega
    rcases hk2 with rfl | rfl | rfl
    · clear q0 q1
      go_wp2
      go_roundw
      case rel => exact ⟨1, by omega, rfl, HB.out.alloc HB.out.size _⟩
      case measure => simp [intOf]
    · clear q0 q1
      go_wp2
      go_roundw
      case rel => exact ⟨2, by omega, rfl, HB.out.alloc HB.out.size _⟩
      case measure => simp [intOf]
    · have HQ : Hid (wr.heap[w.heap.size + 1]? = some (.cells #[.string ⟨#[]⟩, .nilFunc, .nilFunc, .nilFunc] 187 (0, 0))) := q1
      clear q0 q1
      go_wp2
      obtain ⟨p0, p1, p2, p3⟩ := set4_at (a := (.string nameB)) (b := (fnV 115)) (c := (fnV 115)) (d := (fn2 125 ((w.heap.size + 3) + 3))) HQ.out
      have hB : Below w.heap.size w wr := HA.out.2.2.1.trans (HB.out.mono HA.out.2.2.1.size)
      have hz : w.heap.size + 9 ≤ wr.heap.size := by have := HB.out.size; have := HA.out.2.2.2.2; omega
      obtain ⟨X, hX⟩ : ∃ X, X = (set4 (w.heap.size + 1) (.string nameB) (fnV 115) (fnV 115) (fn2 125 ((w.heap.size + 3) + 3)) wr).alloc (.cells #[.string nameB, fnV 115, fnV 115, fn2 125 ((w.heap.size + 3) + 3)] 187) := ⟨_, rfl⟩
      have x1 : X.heap[w.heap.size + 1]? = some (.cells #[.string nameB, fnV 115, fnV 115, fn2 125 ((w.heap.size + 3) + 3)] 187 (0, 0)) := by
        rw [hX, Below.heap_alloc _ _ _ (by rw [p2]; omega)]; exact p0
      have xk : ∀ k, k ≠ w.heap.size + 1 → k < wr.heap.size → X.heap[k]? = wr.heap[k]? := fun k hk hl => by
        rw [hX, Below.heap_alloc _ _ _ (by rw [p2]; exact hl)]; exact p1 k hk
      have xB : Below w.heap.size w X := by
        rw [hX]; exact (p3 _ _ (by omega) hB).alloc (by rw [p2]; omega) _
      have xz : X.heap.size = wr.heap.size + 1 := by rw [hX, World.size_alloc, p2]
      have hC := HA.out.2.2.2.1
      have xC : Cau (w.heap.size + 3) X := by
        have hCr : Cau (w.heap.size + 3) wr := hC.below HB.out (by have := HA.out.2.2.2.2; omega)
        exact ⟨(xk _ (by omega) (by omega)).trans hCr.1, (xk _ (by omega) (by omega)).trans hCr.2.1, (xk _ (by omega) (by omega)).trans hCr.2.2.1, (xk _ (by omega) (by omega)).trans hCr.2.2.2.1, (xk _ (by omega) (by omega)).trans hCr.2.2.2.2.1, (xk _ (by omega) (by omega)).trans hCr.2.2.2.2.2⟩
      obtain ⟨⟨m0, m1, m2, m3⟩, _⟩ := cells4 x1
      show bodyPost _ _ _ _ _ ((set4 (w.heap.size + 1) (.string nameB) (fnV 115) (fnV 115) (fn2 125 ((w.heap.size + 3) + 3)) wr).alloc (.cells #[.string nameB, fnV 115, fnV 115, fn2 125 ((w.heap.size + 3) + 3)] 187))
      rw [← hX]
      refine bodyPost_ret (results_so _ (w.heap.size + 1) _ rfl m0 m1 m2 m3) rfl ?_
      exact ⟨w.heap.size + 3, rfl, xB, xC, by omega, by omega⟩

set_option maxHeartbeats 2000000 in
theorem schemeOf_auth (nm : ByteArray) (w : World) : Calls Tryz.prog 95 #[.agg #[.string authB, .string nm]] w fun e w' => ∃ c, e = .returned (.agg #[.string authB, fnV 103, fn1 122 (c + 5), fnV 104]) ∧ Below w.heap.size w w' ∧ Cau c w' ∧ w.heap.size ≤ c ∧ c + 6 ≤ w'.heap.size := by
  have HS : Hid (∀ V : World, Calls Tryz.prog 102 #[] V fun e w' => e = .returned (.agg (rowsV (V.heap.size + 1)).toArray) ∧ Below V.heap.size V w' ∧ Cau (V.heap.size + 1) w' ∧ V.heap.size + 7 ≤ w'.heap.size) := schemes_any
  have hsf := store_func
  have hr0 := rows_at0
  have hr1 := rows_at1
  have hr2 := rows_at2
  have hr3 := rows_at3
  go_enter Tryz.func95, Tryz.ntmps95
  go_wp2_with fail
  refine (HS.out _).mono ?_
  rintro e w1 ⟨rfl, hB1, hC1, hz1⟩
  obtain ⟨V, hV⟩ : ∃ V, V = (w.alloc (.cells #[.string authB, .string nm] 37)).alloc (.cells #[.string ⟨#[]⟩, .nilFunc, .nilFunc, .nilFunc] 187) := ⟨_, rfl⟩
  have v0 : V.heap[w.heap.size]? = some (.cells #[.string authB, .string nm] 37 (0, 0)) := by
    rw [hV, Below.heap_alloc _ _ _ (by simp only [World.size_alloc]; omega)]; exact alloc_newq rfl
  have v1 : V.heap[w.heap.size + 1]? = some (.cells #[.string ⟨#[]⟩, .nilFunc, .nilFunc, .nilFunc] 187 (0, 0)) := by
    rw [hV]; exact alloc_newq (by simp only [World.size_alloc])
  have vB : Below w.heap.size w V := by rw [hV]; exact ((Below.refl _ w).alloc (Nat.le_refl _) _).alloc (by simp only [World.size_alloc]; omega) _
  have vz : V.heap.size = w.heap.size + 2 := by rw [hV]; simp only [World.size_alloc]
  rw [← hV] at hB1 hC1 hz1
  have HA : Hid (w1.heap[w.heap.size]? = some (.cells #[.string authB, .string nm] 37 (0, 0)) ∧ w1.heap[w.heap.size + 1]? = some (.cells #[.string ⟨#[]⟩, .nilFunc, .nilFunc, .nilFunc] 187 (0, 0)) ∧ Below w.heap.size w w1 ∧ Cau (w.heap.size + 3) w1 ∧ w.heap.size + 9 ≤ w1.heap.size) := by
    refine ⟨(hB1.block _ (by omega)).trans v0, (hB1.block _ (by omega)).trans v1, vB.trans (hB1.mono (by omega)), ?_, by omega⟩
    rw [vz] at hC1
    exact hC1
  clear hB1 hC1 hz1 v0 v1 vB vz hV
  go_wp2
  go_loopw [6] (fun vi wr => ∃ (k : Nat), k ≤ 3 ∧ vi = .int .i64 (k : Int) ∧ Hid (Below w1.heap.size w1 wr)) (fun vi _ => 4 - (intOf vi).toNat)
  case atStart => exact ⟨0, by omega, rfl, Below.refl _ _⟩
  case round =>
    obtain ⟨k, hk, rfl, HB⟩ := hrel
    have q0 : wr.heap[w.heap.size]? = some (.cells #[.string authB, .string nm] 37 (0, 0)) := (HB.out.block _ (by have := HA.out.2.2.2.2; omega)).trans HA.out.1
    have q1 : wr.heap[w.heap.size + 1]? = some (.cells #[.string ⟨#[]⟩, .nilFunc, .nilFunc, .nilFunc] 187 (0, 0)) := (HB.out.block _ (by have := HA.out.2.2.2.2; omega)).trans HA.out.2.1
    have hlt : w.heap.size + 1 < wr.heap.size := lt_of_block q1
    have hlt0 : w.heap.size < wr.heap.size := by omega
    have i0 : wr.cell? ⟨w.heap.size, 0, none⟩ = some (.string authB) := cell_of_row wr w.heap.size 0 _ _ _ q0
    obtain ⟨⟨y0, y1, y2, y3⟩, f0, f1, f2, f3⟩ := cells4 q1
    have hk2 : k = 0 ∨ k = 1 ∨ k = 2 ∨ k = 3 := by omega
    rcases hk2 with rfl | rfl | rfl | rfl
    · clear q0 q1
      go_wp2
      go_roundw
      case rel => exact ⟨1, by omega, rfl, HB.out.alloc HB.out.size _⟩
      case measure => simp [intOf]
    · clear q0 q1
      go_wp2
      go_roundw
      case rel => exact ⟨2, by omega, rfl, HB.out.alloc HB.out.size _⟩
      case measure => simp [intOf]
    · clear q0 q1
      go_wp2
      go_roundw
      case rel => exact ⟨3, by omega, rfl, HB.out.alloc HB.out.size _⟩
      case measure => simp [intOf]
    · have HQ : Hid (wr.heap[w.heap.size + 1]? = some (.cells #[.string ⟨#[]⟩, .nilFunc, .nilFunc, .nilFunc] 187 (0, 0))) := q1
      clear q0 q1
      go_wp2
      obtain ⟨p0, p1, p2, p3⟩ := set4_at (a := (.string authB)) (b := (fnV 103)) (c := (fn1 122 ((w.heap.size + 3) + 5))) (d := (fnV 104)) HQ.out
      have hB : Below w.heap.size w wr := HA.out.2.2.1.trans (HB.out.mono HA.out.2.2.1.size)
      have hz : w.heap.size + 9 ≤ wr.heap.size := by have := HB.out.size; have := HA.out.2.2.2.2; omega
      obtain ⟨X, hX⟩ : ∃ X, X = (set4 (w.heap.size + 1) (.string authB) (fnV 103) (fn1 122 ((w.heap.size + 3) + 5)) (fnV 104) wr).alloc (.cells #[.string authB, fnV 103, fn1 122 ((w.heap.size + 3) + 5), fnV 104] 187) := ⟨_, rfl⟩
      have x1 : X.heap[w.heap.size + 1]? = some (.cells #[.string authB, fnV 103, fn1 122 ((w.heap.size + 3) + 5), fnV 104] 187 (0, 0)) := by
        rw [hX, Below.heap_alloc _ _ _ (by rw [p2]; omega)]; exact p0
      have xk : ∀ k, k ≠ w.heap.size + 1 → k < wr.heap.size → X.heap[k]? = wr.heap[k]? := fun k hk hl => by
        rw [hX, Below.heap_alloc _ _ _ (by rw [p2]; exact hl)]; exact p1 k hk
      have xB : Below w.heap.size w X := by
        rw [hX]; exact (p3 _ _ (by omega) hB).alloc (by rw [p2]; omega) _
      have xz : X.heap.size = wr.heap.size + 1 := by rw [hX, World.size_alloc, p2]
      have hC := HA.out.2.2.2.1
      have xC : Cau (w.heap.size + 3) X := by
        have hCr : Cau (w.heap.size + 3) wr := hC.below HB.out (by have := HA.out.2.2.2.2; omega)
        exact ⟨(xk _ (by omega) (by omega)).trans hCr.1, (xk _ (by omega) (by omega)).trans hCr.2.1, (xk _ (by omega) (by omega)).trans hCr.2.2.1, (xk _ (by omega) (by omega)).trans hCr.2.2.2.1, (xk _ (by omega) (by omega)).trans hCr.2.2.2.2.1, (xk _ (by omega) (by omega)).trans hCr.2.2.2.2.2⟩
      obtain ⟨⟨m0, m1, m2, m3⟩, _⟩ := cells4 x1
      show bodyPost _ _ _ _ _ ((set4 (w.heap.size + 1) (.string authB) (fnV 103) (fn1 122 ((w.heap.size + 3) + 5)) (fnV 104) wr).alloc (.cells #[.string authB, fnV 103, fn1 122 ((w.heap.size + 3) + 5), fnV 104] 187))
      rw [← hX]
      refine bodyPost_ret (results_so _ (w.heap.size + 1) _ rfl m0 m1 m2 m3) rfl ?_
      exact ⟨w.heap.size + 3, rfl, xB, xC, by omega, by omega⟩

set_option maxHeartbeats 2000000 in
theorem schemeOf_other (sc nm : ByteArray) (h0 : sc.data.toList ≠ worldB.data.toList) (h1 : sc.data.toList ≠ ipB.data.toList) (h2 : sc.data.toList ≠ nameB.data.toList) (h3 : sc.data.toList ≠ authB.data.toList) (w : World) : Calls Tryz.prog 95 #[.agg #[.string sc, .string nm]] w fun e w' => e = .returned (.agg #[.string sc, fnV 103, fnV 103, fnV 104]) ∧ Below w.heap.size w w' := by
  have q0 : (([119, 111, 114, 108, 100] : Bs) == sc.toList) = false := by rw [listB sc, beq_eq_false_iff_ne]; exact Ne.symm h0
  have q1 : (([105, 112] : Bs) == sc.toList) = false := by rw [listB sc, beq_eq_false_iff_ne]; exact Ne.symm h1
  have q2 : (([110, 97, 109, 101] : Bs) == sc.toList) = false := by rw [listB sc, beq_eq_false_iff_ne]; exact Ne.symm h2
  have q3 : (([97, 117, 116, 104] : Bs) == sc.toList) = false := by rw [listB sc, beq_eq_false_iff_ne]; exact Ne.symm h3
  clear h0 h1 h2 h3
  have HS : Hid (∀ V : World, Calls Tryz.prog 102 #[] V fun e w' => e = .returned (.agg (rowsV (V.heap.size + 1)).toArray) ∧ Below V.heap.size V w' ∧ Cau (V.heap.size + 1) w' ∧ V.heap.size + 7 ≤ w'.heap.size) := schemes_any
  have hsf := store_func
  have hr0 := rows_at0
  have hr1 := rows_at1
  have hr2 := rows_at2
  have hr3 := rows_at3
  go_enter Tryz.func95, Tryz.ntmps95
  go_wp2_with fail
  refine (HS.out _).mono ?_
  rintro e w1 ⟨rfl, hB1, hC1, hz1⟩
  obtain ⟨V, hV⟩ : ∃ V, V = (w.alloc (.cells #[.string sc, .string nm] 37)).alloc (.cells #[.string ⟨#[]⟩, .nilFunc, .nilFunc, .nilFunc] 187) := ⟨_, rfl⟩
  have v0 : V.heap[w.heap.size]? = some (.cells #[.string sc, .string nm] 37 (0, 0)) := by
    rw [hV, Below.heap_alloc _ _ _ (by simp only [World.size_alloc]; omega)]; exact alloc_newq rfl
  have v1 : V.heap[w.heap.size + 1]? = some (.cells #[.string ⟨#[]⟩, .nilFunc, .nilFunc, .nilFunc] 187 (0, 0)) := by
    rw [hV]; exact alloc_newq (by simp only [World.size_alloc])
  have vB : Below w.heap.size w V := by rw [hV]; exact ((Below.refl _ w).alloc (Nat.le_refl _) _).alloc (by simp only [World.size_alloc]; omega) _
  have vz : V.heap.size = w.heap.size + 2 := by rw [hV]; simp only [World.size_alloc]
  rw [← hV] at hB1 hC1 hz1
  have HA : Hid (w1.heap[w.heap.size]? = some (.cells #[.string sc, .string nm] 37 (0, 0)) ∧ w1.heap[w.heap.size + 1]? = some (.cells #[.string ⟨#[]⟩, .nilFunc, .nilFunc, .nilFunc] 187 (0, 0)) ∧ Below w.heap.size w w1 ∧ Cau (w.heap.size + 3) w1 ∧ w.heap.size + 9 ≤ w1.heap.size) := by
    refine ⟨(hB1.block _ (by omega)).trans v0, (hB1.block _ (by omega)).trans v1, vB.trans (hB1.mono (by omega)), ?_, by omega⟩
    rw [vz] at hC1
    exact hC1
  clear hB1 hC1 hz1 v0 v1 vB vz hV
  go_wp2
  go_loopw [6] (fun vi wr => ∃ (k : Nat), k ≤ 4 ∧ vi = .int .i64 (k : Int) ∧ Hid (Below w1.heap.size w1 wr)) (fun vi _ => 4 - (intOf vi).toNat)
  case atStart => exact ⟨0, by omega, rfl, Below.refl _ _⟩
  case round =>
    obtain ⟨k, hk, rfl, HB⟩ := hrel
    have q0 : wr.heap[w.heap.size]? = some (.cells #[.string sc, .string nm] 37 (0, 0)) := (HB.out.block _ (by have := HA.out.2.2.2.2; omega)).trans HA.out.1
    have q1 : wr.heap[w.heap.size + 1]? = some (.cells #[.string ⟨#[]⟩, .nilFunc, .nilFunc, .nilFunc] 187 (0, 0)) := (HB.out.block _ (by have := HA.out.2.2.2.2; omega)).trans HA.out.2.1
    have hlt : w.heap.size + 1 < wr.heap.size := lt_of_block q1
    have hlt0 : w.heap.size < wr.heap.size := by omega
    have i0 : wr.cell? ⟨w.heap.size, 0, none⟩ = some (.string sc) := cell_of_row wr w.heap.size 0 _ _ _ q0
    obtain ⟨⟨y0, y1, y2, y3⟩, f0, f1, f2, f3⟩ := cells4 q1
    have hk2 : k = 0 ∨ k = 1 ∨ k = 2 ∨ k = 3 ∨ k = 4 := by omega
    rcases hk2 with rfl | rfl | rfl | rfl | rfl
    · clear q0 q1
      go_wp2
      go_roundw
      case rel => exact ⟨1, by omega, rfl, HB.out.alloc HB.out.size _⟩
      case measure => simp [intOf]
    · clear q0 q1
      go_wp2
      go_roundw
      case rel => exact ⟨2, by omega, rfl, HB.out.alloc HB.out.size _⟩
      case measure => simp [intOf]
    · clear q0 q1
      go_wp2
      go_roundw
      case rel => exact ⟨3, by omega, rfl, HB.out.alloc HB.out.size _⟩
      case measure => simp [intOf]
    · clear q0 q1
      go_wp2
      go_roundw
      case rel => exact ⟨4, by omega, rfl, HB.out.alloc HB.out.size _⟩
      case measure => simp [intOf]
    · have HQ : Hid (wr.heap[w.heap.size + 1]? = some (.cells #[.string ⟨#[]⟩, .nilFunc, .nilFunc, .nilFunc] 187 (0, 0))) := q1
      clear q0 q1
      go_wp2
      obtain ⟨p0, p1, p2, p3⟩ := set4_at (a := (.string sc)) (b := (fnV 103)) (c := (fnV 103)) (d := (fnV 104)) HQ.out
      have hB : Below w.heap.size w wr := HA.out.2.2.1.trans (HB.out.mono HA.out.2.2.1.size)
      have xB := p3 _ _ (by omega) hB
      obtain ⟨⟨m0, m1, m2, m3⟩, _⟩ := cells4 p0
      show bodyPost _ _ _ _ _ (set4 (w.heap.size + 1) (.string sc) (fnV 103) (fnV 103) (fnV 104) wr)
      refine bodyPost_ret (results_so _ (w.heap.size + 1) _ rfl m0 m1 m2 m3) rfl ?_
      exact ⟨rfl, xB⟩

end Go.Proofs.YtgoiefhhbgollaaGreatDoor
