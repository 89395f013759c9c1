/- What the document's own answers for layer 3 are: its Sum, the four bytes of a number, a body's frame, Put. -/
import Derived.Test.YtjdigknhiopdeaaGreatMaAJ
import Derived.Test.YtjdigknhiopdeaaGreatCopyJ
import Derived.Test.YtjdigknhiopdeaaGreatFrLivesJ
import Derived.Deep.AppendLies
import Derived.Maps.AppendAt
namespace Go.Proofs.YtjdigknhiopdeaaGreat
open Go.RowKit
set_option maxRecDepth 8000

theorem ofInt_i64 (a : Nat) (ha : a < 9223372036854775808) : (BitVec.ofInt 64 (a : Int)).toNat = a := by
  rw [BitVec.ofInt_natCast, BitVec.toNat_ofNat]; exact Nat.mod_eq_of_lt (by omega)
theorem i64_or (a b : Int) (h1 : 0 ≤ a) (h2 : a < 4611686018427387904) (h3 : 0 ≤ b) (h4 : b < 4611686018427387904) : bits .or .i64 a b = ((a.toNat ||| b.toNat : Nat) : Int) := by
  obtain ⟨A, rfl⟩ := Int.eq_ofNat_of_zero_le h1
  obtain ⟨B, rfl⟩ := Int.eq_ofNat_of_zero_le h3
  have hx : A ||| B < 2 ^ 62 := Nat.or_lt_two_pow (by omega) (by omega)
  show IntKind.i64.wrap ((BitVec.ofInt 64 (A : Int) ||| BitVec.ofInt 64 (B : Int)).toNat : Int) = _
  rw [BitVec.toNat_or, ofInt_i64 A (by omega), ofInt_i64 B (by omega)]
  simp only [Int.toNat_natCast]
  simp [IntKind.wrap, IntKind.bits, IntKind.signed]
  omega

theorem adler_i64 (xs : List Int) : bits .or .i64 ((adl xs).2 * 65536) (adl xs).1 = adler xs := by
  have h := adl_bd xs
  rw [i64_or _ _ (by omega) (by omega) (by omega) (by omega), nat_join 16 _ _ (by omega) (by omega)]
  unfold adler; omega

set_option maxHeartbeats 400000 in
theorem refSum3_any (v : Value) (xs : List Int) (w : World) (h : Sees w v xs) (hb : Byts xs) :
    Calls Tryz.prog 73 #[v] w fun e w' => e = .returned (.int .i64 (adler xs)) ∧ w' = w := by
  obtain ⟨ao, cap, rfl, hlc, hcm, _, h3⟩ := h
  unfold maxLen at hcm
  go_enter Tryz.func73, Tryz.ntmps73
  go_wp2
  go_loop [3, 4, 5] (fun lo hi i => ∃ k : Nat, k ≤ xs.length ∧ i = .int .i64 k ∧ lo = .int .i64 (adl (xs.take k)).1 ∧ hi = .int .i64 (adl (xs.take k)).2) (fun _ _ i => xs.length - (intOf i).toNat)
  case atStart => exact ⟨0, Nat.zero_le _, rfl, rfl, rfl⟩
  case round =>
    obtain ⟨k, hk, rfl, rfl, rfl⟩ := hrel
    have hd := adl_bd (xs.take k)
    by_cases hlt : k < xs.length
    · rcases h3 with h3 | ⟨b, off, rfl, h3⟩
      · subst h3; simp at hlt
      · have hc := h3 k hlt
        have hx := hb.nth k
        have HS : Hid _ := adl_next xs k hlt
        generalize xs.getD k 0 = x at *
        generalize hA : (adl (xs.take k)).1 = A at *
        generalize hB : (adl (xs.take k)).2 = B at *
        clear hA hB h3 hb
        go_wp2
        go_round
        case rel => exact ⟨k + 1, by omega, by go_num, by rw [HS.out.1], by rw [HS.out.2]⟩
        case measure => simp [intOf]; omega
    · obtain rfl : k = xs.length := by omega
      rw [List.take_length] at *
      have HA : Hid _ := adler_i64 xs
      go_wp2
      go_ret
      exact ⟨ret_int HA.out, rfl⟩

set_option maxHeartbeats 400000 in
theorem four_any (n : Int) (w : World) (h0 : 0 ≤ n) (h1 : n < 4294967296) :
    Calls Tryz.prog 72 #[.int .i64 n] w fun e w' => ∃ v, e = .returned v ∧ Owns w' w.heap.size v (be4 n) ∧ Below w.heap.size w w' := by
  go_enter Tryz.func72, Tryz.ntmps72
  go_wp2
  go_ret
  exact ⟨_, rfl, World.ownsRow_lit w _ 4 (Nat.le_refl _) (by unfold maxLen; omega) rfl, (Below.refl _ _).alloc (Nat.le_refl _) _⟩

/-- One byte more on a list of the call's own: what is known behind it. -/
theorem app_one {B : Nat} {w wr w1 : World} {v : Value} {F : List Int} {x : Int} {g c : Nat} {o : Obj} (hbel : Below B w wr) (hB : B ≤ wr.heap.size) (hown : Owns wr B v F)
    (hown' : w1.ownsRow B 5 1 (.slice (some ⟨g, 0, none⟩) (F.length + 1) c) (F.length + 1) (F.map (Value.int .u8) ++ [.int .u8 x])) (hgrow : (wr.alloc o).grownBy w1 v.ownBlock) :
    Owns w1 B (.slice (some ⟨g, 0, none⟩) (F ++ [x]).length c) (F ++ [x]) ∧ Below B w w1 ∧ Kept wr w1 (fun k => v.ownBlock = some k) := by
  have k1 : Kept wr w1 (fun k => v.ownBlock = some k) := ((Kept.refl wr _).alloc o).grown hgrow (fun _ _ e => e)
  refine ⟨by simpa [Owns] using hown', hbel.trans (k1.below hB (fun k e => (hown.lt k e).1)), k1⟩

set_option maxHeartbeats 1000000 in
theorem refFrame_any (v : Value) (xs : List Int) (w : World) (h : Sees w v xs) (hb : Byts xs) (hl : xs.length ≤ 1048576) :
    Calls Tryz.prog 46 #[v] w fun e w' => ∃ u, e = .returned u ∧ Owns w' w.heap.size u (frameL xs) ∧ Below w.heap.size w w' := by
  have H : Hid (Sees w v xs ∧ Byts xs) := ⟨h, hb⟩
  obtain ⟨ao, cap, rfl, g1, g2, g0, g3⟩ := h
  unfold maxLen at g2
  have ha := adler_bd xs
  have ha1 := ha.1
  have ha2 := ha.2
  obtain ⟨b0, hbi, bz0, bz1, bz2⟩ := info_parts Tryz.infoByte
  clear g0 hb ha
  go_enter Tryz.func46, Tryz.ntmps46
  go_wp2_with fail
  refine (four_any xs.length _ (by omega) (by omega)).mono ?_
  rintro e w1 ⟨f, rfl, hf, hb1⟩
  have H1 : Hid (Owns w1 w.heap.size f (be4 xs.length) ∧ Below w.heap.size w w1) := ⟨hf, hb1⟩
  clear hf hb1
  go_wp2_with fail
  refine (refSum3_any _ xs _ (H.out.1.below H1.out.2 (Nat.le_refl _)) H.out.2).mono ?_
  rintro e w2 ⟨rfl, rfl⟩
  go_wp2_with fail
  refine (four_any (adler xs) _ ha1 ha2).mono ?_
  rintro e w3 ⟨s, rfl, hs, hb3⟩
  obtain ⟨gs, cs, hse, hgs⟩ := owns_some hs (by simp [be4])
  subst hse
  have H3 : Hid (Owns w3 w.heap.size f (be4 xs.length) ∧ Owns w3 0 (.slice (some ⟨gs, 0, none⟩) 4 cs) (be4 (adler xs)) ∧ f.ownBlock ≠ some gs ∧ Below w.heap.size w w3) := by
    refine ⟨Owns.kept H1.out.1 (Below.kept hb3) (fun k hk => by have := rows_lt H1.out.1 hk; omega), owns_mono hs (Nat.zero_le _), fun e => ?_, H1.out.2.trans (hb3.mono H1.out.2.size)⟩
    have := rows_lt H1.out.1 e
    omega
  have h4 : (be4 (adler xs)).length = 4 := rfl
  rw [h4]
  clear hs hb3 H1 hgs h4
  go_wp2_with fail
  go_loopw [3, 5] (fun f i wr => ∃ k : Nat, k ≤ 4 ∧ i = .int .i64 k ∧ Owns wr w.heap.size f (be4 xs.length ++ (be4 (adler xs)).take k) ∧ Owns wr 0 (.slice (some ⟨gs, 0, none⟩) 4 cs) (be4 (adler xs)) ∧ f.ownBlock ≠ some gs ∧ Below w.heap.size w wr) (fun _ i _ => 4 - (intOf i).toNat)
  case atStart => exact ⟨0, Nat.zero_le _, rfl, by rw [List.take_zero, List.append_nil]; exact H3.out.1, H3.out.2⟩
  case round =>
    obtain ⟨k, hk, rfl, i1, i2, i3, i4⟩ := hrel
    by_cases hlt : k < 4
    · have dk : decide ((k : Int) < 4) = true := by simp only [decide_eq_true_eq]; omega
      have h4 : (be4 (adler xs)).length = 4 := rfl
      have hc := owns_cell i2 k (by rw [h4]; exact hlt)
      have HN : Hid _ := take_next (be4 (adler xs)) k (by rw [h4]; exact hlt)
      have HI : Hid (Owns wr w.heap.size u3 (be4 xs.length ++ (be4 (adler xs)).take k) ∧ Owns wr 0 (.slice (some ⟨gs, 0, none⟩) 4 cs) (be4 (adler xs)) ∧ u3.ownBlock ≠ some gs ∧ Below w.heap.size w wr) := ⟨i1, i2, i3, i4⟩
      have hln : (be4 xs.length ++ (be4 (adler xs)).take k).length = 4 + k := by simp [be4]; omega
      have HLN : Hid ((be4 xs.length ++ (be4 (adler xs)).take k).length = 4 + k) := hln
      clear i1 i2 i3 i4 h4 hln H3 g3
      generalize (be4 (adler xs)).getD k 0 = x at *
      obtain ⟨F, hF⟩ : ∃ F, F = be4 xs.length ++ (be4 (adler xs)).take k := ⟨_, rfl⟩
      have HF : Hid (F = be4 xs.length ++ (be4 (adler xs)).take k) := hF
      rw [← hF] at HI HLN
      clear hF
      go_wp2_with (at_builtin; refine wpList_append_lies _ rfl _ _ 22 rfl w.heap.size 5 b0 (.int .u8 0) 1 1 Tryz.underlying22 hbi bz0 bz1 bz2 rfl (by decide) _ F.length (F.map (Value.int .u8)) rfl (HI.out.1.alloc _) ⟨wr.heap.size, 0, none⟩ 1 1 [.int .u8 x] rfl rfl (cell_one_new _ _ _) (by simp [Value.oneCell']) (by decide) (by rw [HLN.out]; unfold maxLen; omega) (by rw [HLN.out]; omega) (by have := HI.out.2.2.2.size; simp; omega) (wr.heap.size + 1) (by simp) ?_)
      intro gi ci w5 hown5 hgrow5 hlies5 _
      obtain ⟨o5, b5, k5⟩ := app_one HI.out.2.2.2 HI.out.2.2.2.size HI.out.1 hown5 hgrow5
      have H5 : Hid (Owns w5 w.heap.size (.slice (some ⟨gi, 0, none⟩) (F.length + 1) ci) (be4 xs.length ++ (be4 (adler xs)).take (k + 1)) ∧ Owns w5 0 (.slice (some ⟨gs, 0, none⟩) 4 cs) (be4 (adler xs)) ∧ (Value.slice (some ⟨gi, 0, none⟩) (F.length + 1) ci).ownBlock ≠ some gs ∧ Below w.heap.size w w5) := by
        refine ⟨?_, Owns.kept HI.out.2.1 k5 (fun k e e' => ?_), fun e => ?_, b5⟩
        · rw [HN.out, ← List.append_assoc, ← HF.out]
          have := o5
          rw [List.length_append] at this
          exact this
        · simp [Value.ownBlock] at e
          subst e
          exact HI.out.2.2.1 e'
        · simp [Value.ownBlock] at e
          have hgl : gs < wr.heap.size := rows_lt HI.out.2.1 rfl
          rcases hlies5 with h | h
          · rw [e] at h; exact HI.out.2.2.1 h
          · omega
      clear o5 b5 k5 hown5 hgrow5 hlies5 HI hc
      go_wp2
      go_roundw
      case rel => exact ⟨k + 1, by omega, by go_num, H5.out⟩
      case measure => simp [intOf]; omega
    · have dk : decide ((k : Int) < 4) = false := by simp only [decide_eq_false_iff_not]; omega
      have h4 : (be4 (adler xs)).length = 4 := rfl
      have HI : Hid (Owns wr w.heap.size u3 (headL xs) ∧ Below w.heap.size w wr) := by
        refine ⟨?_, i4⟩
        rw [List.take_of_length_le (by rw [h4]; omega)] at i1
        exact i1
      clear i1 i2 i3 i4 h4 H3
      go_wp2_with fail
      go_loopw [3, 6] (fun f i wr => ∃ k : Nat, k ≤ xs.length ∧ i = .int .i64 k ∧ Owns wr w.heap.size f (headL xs ++ xs.take k) ∧ Below w.heap.size w wr) (fun _ i _ => xs.length - (intOf i).toNat)
      case atStart => exact ⟨0, Nat.zero_le _, rfl, by rw [List.take_zero, List.append_nil]; exact HI.out.1, HI.out.2⟩
      case round =>
        obtain ⟨j, hj, rfl, i1, i2⟩ := hrel
        by_cases hjl : j < xs.length
        · have dj : decide ((j : Int) < xs.length) = true := by simp only [decide_eq_true_eq]; omega
          rcases g3 with g3 | ⟨b, off, rfl, g3⟩
          · subst g3; simp at hjl
          · have hc := cell_later (g3 j hjl) i2 (Nat.le_refl _)
            have HN : Hid _ := take_next xs j hjl
            have hln : (headL xs ++ xs.take j).length = 8 + j := by rw [List.length_append, headL_len, List.length_take]; omega
            have HLN : Hid ((headL xs ++ xs.take j).length = 8 + j) := hln
            have HJ : Hid (Owns wr w.heap.size u3 (headL xs ++ xs.take j) ∧ Below w.heap.size w wr) := ⟨i1, i2⟩
            clear i1 i2 hln g3
            generalize xs.getD j 0 = x at *
            obtain ⟨F, hF⟩ : ∃ F, F = headL xs ++ xs.take j := ⟨_, rfl⟩
            have HF : Hid (F = headL xs ++ xs.take j) := hF
            rw [← hF] at HJ HLN
            clear hF
            go_wp2_with (at_builtin; refine wpList_append_lies _ rfl _ _ 22 rfl w.heap.size 5 b0 (.int .u8 0) 1 1 Tryz.underlying22 hbi bz0 bz1 bz2 rfl (by decide) _ F.length (F.map (Value.int .u8)) rfl (HJ.out.1.alloc _) ⟨wr.heap.size, 0, none⟩ 1 1 [.int .u8 x] rfl rfl (cell_one_new _ _ _) (by simp [Value.oneCell']) (by decide) (by rw [HLN.out]; unfold maxLen; omega) (by rw [HLN.out]; omega) (by have := HJ.out.2.size; simp; omega) (wr.heap.size + 1) (by simp) ?_)
            intro gi ci w5 hown5 hgrow5 _ _
            obtain ⟨o5, b5, _⟩ := app_one HJ.out.2 HJ.out.2.size HJ.out.1 hown5 hgrow5
            have H5 : Hid (Owns w5 w.heap.size (.slice (some ⟨gi, 0, none⟩) (F.length + 1) ci) (headL xs ++ xs.take (j + 1)) ∧ Below w.heap.size w w5) := by
              refine ⟨?_, b5⟩
              rw [HN.out, ← List.append_assoc, ← HF.out]
              have := o5
              rw [List.length_append] at this
              exact this
            clear o5 b5 hown5 hgrow5 HJ hc
            go_wp2
            go_roundw
            case rel => exact ⟨j + 1, by omega, by go_num, H5.out⟩
            case measure => simp [intOf]; omega
        · have dj : decide ((j : Int) < xs.length) = false := by simp only [decide_eq_false_iff_not]; omega
          have HJ : Hid (Owns wr w.heap.size u3 (headL xs ++ xs) ∧ Below w.heap.size w wr) := by
            refine ⟨?_, i2⟩
            rw [List.take_of_length_le (by omega)] at i1
            exact i1
          have hln : (headL xs ++ xs).length = 8 + xs.length := by rw [List.length_append, headL_len]
          have HLN : Hid ((headL xs ++ xs).length = 8 + xs.length) := hln
          clear i1 i2 hln g3
          obtain ⟨F, hF⟩ : ∃ F, F = headL xs ++ xs := ⟨_, rfl⟩
          have HF : Hid (F = headL xs ++ xs) := hF
          rw [← hF] at HJ HLN
          clear hF
          go_wp2_with (at_builtin; refine wpList_append_lies _ rfl _ _ 22 rfl w.heap.size 5 b0 (.int .u8 0) 1 1 Tryz.underlying22 hbi bz0 bz1 bz2 rfl (by decide) _ F.length (F.map (Value.int .u8)) rfl (HJ.out.1.alloc _) ⟨wr.heap.size, 0, none⟩ 1 1 [.int .u8 66] rfl rfl (cell_one_new _ _ _) (by simp [Value.oneCell']) (by decide) (by rw [HLN.out]; unfold maxLen; omega) (by rw [HLN.out]; omega) (by have := HJ.out.2.size; simp; omega) (wr.heap.size + 1) (by simp) ?_)
          intro gi ci w5 hown5 hgrow5 _ _
          obtain ⟨o5, b5, _⟩ := app_one HJ.out.2 HJ.out.2.size HJ.out.1 hown5 hgrow5
          have H5 : Hid (Owns w5 w.heap.size (.slice (some ⟨gi, 0, none⟩) (F.length + 1) ci) (frameL xs) ∧ Below w.heap.size w w5) := by
            refine ⟨?_, b5⟩
            have e : frameL xs = F ++ [66] := by rw [HF.out]; unfold frameL; rw [List.append_assoc]
            rw [e]
            have := o5
            rw [List.length_append] at this
            exact this
          clear o5 b5 hown5 hgrow5 HJ
          go_wp2
          go_ret
          exact ⟨_, rfl, H5.out⟩

end Go.Proofs.YtjdigknhiopdeaaGreat
