/- What acl.number answers. -/
import Derived.Test.YtgoiefhhbgollaaGreatDoorQbAJ
import Derived.Lib.ConvBytes
namespace Go.Proofs.YtgoiefhhbgollaaGreatDoor
open Go.RowKit Go.Shelf
set_option maxRecDepth 8000

def numDV (last : Nat) (l : Bs) : Value := match numF last l with
  | none => .tuple #[.int .i64 0, .bool false]
  | some n => .tuple #[.int .i64 (n : Int), .bool true]

theorem valD_app (a b : Bs) : valD a ≤ valD (a ++ b) := by
  have key : ∀ (b : Bs) (n : Nat), n ≤ b.foldl (fun n b => 10 * n + (b.toNat - 48)) n := by
    intro b
    induction b with
    | nil => intro n; simp
    | cons c r ih => intro n; simp only [List.foldl_cons]; exact Nat.le_trans (by omega) (ih _)
  unfold valD
  rw [List.foldl_append]
  exact key _ _

theorem numF_over {last k : Nat} {l : Bs} (h : last < valD (l.take k)) : numF last l = none := by
  have := valD_app (l.take k) (l.drop k)
  rw [List.take_append_drop] at this
  unfold numF
  rw [if_pos (.inr (.inr (.inr (by omega))))]

theorem numF_bad {last k : Nat} {l : Bs} (hk : k < l.length) (h : isD (l.getD k 0) = false) : numF last l = none := by
  have ha : l.all isD = false := by
    rw [List.all_eq_false]
    refine ⟨l[k], List.getElem_mem hk, ?_⟩
    rw [List.getD_eq_getElem?_getD, List.getElem?_eq_getElem hk] at h
    simp only [Option.getD_some] at h
    simp [h]
  unfold numF
  rw [if_pos (.inr (.inr (.inl ha)))]

theorem take_isD {l : Bs} {k : Nat} (hk : k < l.length) : (l.take (k + 1)).all isD = ((l.take k).all isD && isD (l.getD k 0)) ∧ valD (l.take (k + 1)) = 10 * valD (l.take k) + ((l.getD k 0).toNat - 48) := by
  have e : l.take (k + 1) = l.take k ++ [l.getD k 0] := by
    rw [List.take_succ_eq_append_getElem hk, List.getD_eq_getElem?_getD, List.getElem?_eq_getElem hk]
    rfl
  rw [e]
  exact ⟨by simp, valD_snoc _ _⟩

/-- The list of bytes that a text is made into. -/
theorem conv_bytes (s : ByteArray) (w : World) : ∃ C W1, (convert 9 104 (.string s)).run Tryz.prog w = .ok (.slice (some ⟨w.heap.size, 0, none⟩) s.size C) W1 ∧ (∀ j, j < s.size → W1.cell? ⟨w.heap.size, j, none⟩ = some (.int .u8 ((s.data.toList.getD j 0).toNat : Int))) ∧ Below w.heap.size w W1 :=
  ⟨_, _, Lib.run_convert_string_bytes w 9 104 5 s Tryz.underlying9 Tryz.underlying104 Tryz.underlying5, fun j hj => Lib.bytesWorld_cell w _ s j hj,
    ⟨rfl, rfl, rfl, by rw [Lib.bytesWorld_size]; omega, fun j hj => Lib.bytesWorld_at_old w _ s j hj⟩⟩

set_option maxHeartbeats 1000000 in
theorem numD_any (s : ByteArray) (last : Nat) (hl : s.size ≤ 4294967296) (hlast : last ≤ 255) (w : World) :
    Calls Tryz.prog 131 #[.string s, .int .i64 (last : Int)] w fun e w' => e = .returned (numDV last s.data.toList) ∧ Below w.heap.size w w' := by
  have HS : Hid (s.size = s.data.toList.length) := size_list s
  obtain ⟨val, hval⟩ : ∃ val, val = numDV last s.data.toList := ⟨_, rfl⟩
  rw [← hval]
  have HVal : Hid (val = numDV last s.data.toList) := hval
  clear hval
  have HNo : Hid (numF last s.data.toList = none → val = .tuple #[.int .i64 0, .bool false]) := fun h => by rw [HVal.out]; unfold numDV; rw [h]
  by_cases h0 : 0 < s.size
  · have hne : s.toList.isEmpty = false := by
      rw [Lib.toList_data]
      cases hs : s.data.toList with
      | nil => have h00 : s.size = 0 := by rw [HS.out, hs]; rfl
               omega
      | cons b t => rfl
    have hby := byteAt s 0 h0
    by_cases zz : s.data.toList.getD 0 0 = 48 ∧ 1 < s.size
    · obtain ⟨z, h1⟩ := zz
      have HX := HNo.out (by unfold numF; rw [if_pos (.inr (.inl ⟨z, by rw [← HS.out]; exact h1⟩))])
      have HXX : Hid (val = .tuple #[.int .i64 0, .bool false]) := HX
      have hz : ((s[0].toNat : Int) == 48) = true := by rw [hby, z]; rfl
      clear hby z HX
      go_enter Tryz.func131, Tryz.ntmps131
      go_wp2
      all_goals (go_ret2; exact ⟨by rw [HXX.out]; rfl, Below.refl _ _⟩)
    · obtain ⟨C, W1, hconv, hcell, hB⟩ := conv_bytes s w
      have HB : Hid (Below w.heap.size w W1) := hB
      have HC : Hid (∀ j, j < s.size → W1.cell? ⟨w.heap.size, j, none⟩ = some (.int .u8 ((s.data.toList.getD j 0).toNat : Int))) := hcell
      have HZ : Hid (¬ (s.data.toList.getD 0 0 = 48 ∧ 1 < s.data.toList.length)) := by show ¬ _; rw [← HS.out]; exact zz
      have HE : Hid (s.data.toList ≠ []) := by
        intro e
        have h00 : s.size = 0 := by rw [HS.out, e]; rfl
        omega
      by_cases z : s.data.toList.getD 0 0 = 48
      · have hz : ((s[0].toNat : Int) == 48) = true := by rw [hby, z]; rfl
        have h1 : s.size ≤ 1 := by have : ¬ 1 < s.size := fun h => zz ⟨z, h⟩; omega
        clear hby zz hB hcell z
        go_enter Tryz.func131, Tryz.ntmps131
        go_wp2
        go_loop [6, 24] (fun vn vi => ∃ (k n : Nat), k ≤ s.size ∧ n ≤ 255 ∧ vn = .int .i64 (n : Int) ∧ vi = .int .i64 (k : Int) ∧ Hid ((s.data.toList.take k).all isD = true ∧ valD (s.data.toList.take k) = n ∧ n ≤ last)) (fun _ vi => s.size - (intOf vi).toNat)
        case atStart => exact ⟨0, 0, by omega, by omega, rfl, rfl, rfl, rfl, by omega⟩
        case round =>
          obtain ⟨k, n, hk, hn, rfl, rfl, HI⟩ := hrel
          by_cases hlt : k < s.size
          · have hc := HC.out k hlt
            have hby := byteAt s k hlt
            rw [← hby] at hc
            have HT := take_isD (l := s.data.toList) (k := k) (by rw [← HS.out]; exact hlt)
            rw [← hby] at HT
            have HTT : Hid _ := HT
            have HBd : Hid (isD s[k] = false → val = .tuple #[.int .i64 0, .bool false]) := fun h => HNo.out (numF_bad (k := k) (by rw [← HS.out]; exact hlt) (by rw [← hby]; exact h))
            clear HT hby
            by_cases h48 : 48 ≤ s[k].toNat
            · by_cases h57 : s[k].toNat ≤ 57
              · have hD : isD s[k] = true := by unfold isD; simp [h48, h57]
                have hsub : (((s[k].toNat : Int) - 48) % 256) = ((s[k].toNat - 48 : Nat) : Int) := by omega
                by_cases hov : n * 10 + (s[k].toNat - 48) ≤ last
                · have HN : Hid ((s.data.toList.take (k + 1)).all isD = true ∧ valD (s.data.toList.take (k + 1)) = n * 10 + (s[k].toNat - 48) ∧ n * 10 + (s[k].toNat - 48) ≤ last) := ⟨by rw [HTT.out.1, HI.out.1, hD]; rfl, by rw [HTT.out.2, HI.out.2.1]; omega, hov⟩
                  clear hD
                  go_wp2
                  go_round
                  case rel => exact ⟨k + 1, n * 10 + (s[k].toNat - 48), by omega, by omega, by congr 1; omega, by congr 1, HN⟩
                  case measure => simp [intOf]; omega
                · have HX : Hid (val = .tuple #[.int .i64 0, .bool false]) := HNo.out (numF_over (k := k + 1) (by rw [HTT.out.2, HI.out.2.1]; omega))
                  have hov2 : last < n * 10 + (s[k].toNat - 48) := by omega
                  clear hD hov
                  go_wp2
                  all_goals (go_ret2; exact ⟨by rw [HX.out]; rfl, HB.out⟩)
              · have HX : Hid (val = .tuple #[.int .i64 0, .bool false]) := HBd.out (by unfold isD; simp [h48, h57])
                go_wp2
                all_goals (go_ret2; exact ⟨by rw [HX.out]; rfl, HB.out⟩)
            · have HX : Hid (val = .tuple #[.int .i64 0, .bool false]) := HBd.out (by unfold isD; simp [h48])
              go_wp2
              all_goals (go_ret2; exact ⟨by rw [HX.out]; rfl, HB.out⟩)
          · have HX : Hid (val = .tuple #[.int .i64 (n : Int), .bool true]) := by
              show _ = _
              have hI := HI.out
              rw [List.take_of_length_le (by rw [← HS.out]; omega)] at hI
              rw [HVal.out]
              unfold numDV
              rw [numF_of HE.out HZ.out hI.1 (by omega), hI.2.1]
            go_wp2
            all_goals (go_ret2; exact ⟨by rw [HX.out]; rfl, HB.out⟩)
      · have hz : ((s[0].toNat : Int) == 48) = false := by rw [beq_eq_false_iff_ne]; intro e; exact z (by rw [← hby]; exact UInt8.toNat_inj.1 (by show s[0].toNat = 48; omega))
        clear hby zz hB hcell z
        go_enter Tryz.func131, Tryz.ntmps131
        go_wp2
        go_loop [6, 24] (fun vn vi => ∃ (k n : Nat), k ≤ s.size ∧ n ≤ 255 ∧ vn = .int .i64 (n : Int) ∧ vi = .int .i64 (k : Int) ∧ Hid ((s.data.toList.take k).all isD = true ∧ valD (s.data.toList.take k) = n ∧ n ≤ last)) (fun _ vi => s.size - (intOf vi).toNat)
        case atStart => exact ⟨0, 0, by omega, by omega, rfl, rfl, rfl, rfl, by omega⟩
        case round =>
          obtain ⟨k, n, hk, hn, rfl, rfl, HI⟩ := hrel
          by_cases hlt : k < s.size
          · have hc := HC.out k hlt
            have hby := byteAt s k hlt
            rw [← hby] at hc
            have HT := take_isD (l := s.data.toList) (k := k) (by rw [← HS.out]; exact hlt)
            rw [← hby] at HT
            have HTT : Hid _ := HT
            have HBd : Hid (isD s[k] = false → val = .tuple #[.int .i64 0, .bool false]) := fun h => HNo.out (numF_bad (k := k) (by rw [← HS.out]; exact hlt) (by rw [← hby]; exact h))
            clear HT hby
            by_cases h48 : 48 ≤ s[k].toNat
            · by_cases h57 : s[k].toNat ≤ 57
              · have hD : isD s[k] = true := by unfold isD; simp [h48, h57]
                have hsub : (((s[k].toNat : Int) - 48) % 256) = ((s[k].toNat - 48 : Nat) : Int) := by omega
                by_cases hov : n * 10 + (s[k].toNat - 48) ≤ last
                · have HN : Hid ((s.data.toList.take (k + 1)).all isD = true ∧ valD (s.data.toList.take (k + 1)) = n * 10 + (s[k].toNat - 48) ∧ n * 10 + (s[k].toNat - 48) ≤ last) := ⟨by rw [HTT.out.1, HI.out.1, hD]; rfl, by rw [HTT.out.2, HI.out.2.1]; omega, hov⟩
                  clear hD
                  go_wp2
                  go_round
                  case rel => exact ⟨k + 1, n * 10 + (s[k].toNat - 48), by omega, by omega, by congr 1; omega, by congr 1, HN⟩
                  case measure => simp [intOf]; omega
                · have HX : Hid (val = .tuple #[.int .i64 0, .bool false]) := HNo.out (numF_over (k := k + 1) (by rw [HTT.out.2, HI.out.2.1]; omega))
                  have hov2 : last < n * 10 + (s[k].toNat - 48) := by omega
                  clear hD hov
                  go_wp2
                  all_goals (go_ret2; exact ⟨by rw [HX.out]; rfl, HB.out⟩)
              · have HX : Hid (val = .tuple #[.int .i64 0, .bool false]) := HBd.out (by unfold isD; simp [h48, h57])
                go_wp2
                all_goals (go_ret2; exact ⟨by rw [HX.out]; rfl, HB.out⟩)
            · have HX : Hid (val = .tuple #[.int .i64 0, .bool false]) := HBd.out (by unfold isD; simp [h48])
              go_wp2
              all_goals (go_ret2; exact ⟨by rw [HX.out]; rfl, HB.out⟩)
          · have HX : Hid (val = .tuple #[.int .i64 (n : Int), .bool true]) := by
              show _ = _
              have hI := HI.out
              rw [List.take_of_length_le (by rw [← HS.out]; omega)] at hI
              rw [HVal.out]
              unfold numDV
              rw [numF_of HE.out HZ.out hI.1 (by omega), hI.2.1]
            go_wp2
            all_goals (go_ret2; exact ⟨by rw [HX.out]; rfl, HB.out⟩)
  · have HX := HNo.out (by unfold numF; rw [if_pos (.inl (List.length_eq_zero_iff.1 (by rw [← HS.out]; omega)))])
    have HXX : Hid (val = .tuple #[.int .i64 0, .bool false]) := HX
    have hne : s.toList.isEmpty = true := by
      rw [Lib.toList_data, List.isEmpty_iff]
      exact List.length_eq_zero_iff.1 (by rw [← HS.out]; omega)
    clear HX
    go_enter Tryz.func131, Tryz.ntmps131
    go_wp2
    all_goals (go_ret2; exact ⟨by rw [HXX.out]; rfl, Below.refl _ _⟩)

end Go.Proofs.YtgoiefhhbgollaaGreatDoor
