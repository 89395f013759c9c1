/- What the document's Above answers: the paths above a path, as a list of one's own. -/
import Derived.Test.YtgaemldkpfbomaaPaL
import Derived.Test.YtgaemldkpfbomaaPbE
namespace Go.Proofs.Ytgaemldkpfbomaa
open Go.RowKit Go.Shelf
set_option maxRecDepth 8000

def fstP (l : Bs) (k : Nat) : List Nat := (slots l k).map Prod.fst

theorem fstP_at (l : Bs) (i : Nat) (h : i < l.length) : fstP (l.drop i) i = if l.getD i 0 = 47 then (i + 1) :: fstP (l.drop (i + 1)) (i + 1) else fstP (l.drop (i + 1)) (i + 1) := by
  unfold fstP
  rw [slots_at l i h]
  split <;> rfl

theorem pre_eq (s : ByteArray) (k : Nat) : (⟨(s.data.toList.take k).toArray⟩ : ByteArray) = s.extract 0 k := by
  rw [Lib.extract_eq]; simp

set_option maxHeartbeats 1000000 in
theorem aboveR_any (s : ByteArray) (w : World) (hl : s.size ≤ 4294967295) :
    Calls Try.prog 18 #[.string s] w fun e w' => ∃ v, e = .returned v ∧ w'.ownsRow w.heap.size 9 1 v (abv s.data.toList).length ((abv s.data.toList).map bytesV) ∧ Below w.heap.size w w' := by
  have e1 := eq_list' s [47]
  cases hi : isPb s.data.toList with
  | false =>
    have hp := abv_nil (.inr hi)
    rw [hp]
    clear hp e1
    go_enter Try.func18, Try.ntmps18
    go_wp2_with fail
    refine (is_any s hl _).mono ?_
    rintro e w1 ⟨rfl, hb1⟩
    rw [hi]
    go_wp2
    go_ret
    exact ⟨_, rfl, World.ownsRow_nil _ _ _ _, hb1⟩
  | true =>
    by_cases h47 : s.data.toList = [47]
    · have hp := abv_nil (.inl h47)
      rw [hp]
      rw [decide_eq_true h47] at e1
      clear hp h47
      go_enter Try.func18, Try.ntmps18
      go_wp2_with fail
      refine (is_any s hl _).mono ?_
      rintro e w1 ⟨rfl, hb1⟩
      rw [hi]
      go_wp2
      go_ret
      exact ⟨_, rfl, World.ownsRow_nil _ _ _ _, hb1⟩
    · rw [decide_eq_false h47] at e1
      have hcond : ¬ (s.data.toList = [47] ∨ isPb s.data.toList = false) := by rintro (h | h); exact h47 h; rw [hi] at h; simp at h
      have hab : abv s.data.toList = (fstP s.data.toList 0).map fun j => s.data.toList.take (max (j - 1) 1) := abv_places hcond
      obtain ⟨r, hr⟩ := isPb_head hi (by rw [← size_list]; omega)
      have hstart : abv s.data.toList = [[47]] ++ (fstP (s.data.toList.drop 1) 1).map fun j => s.data.toList.take (max (j - 1) 1) := by
        rw [hab, hr]
        have e : fstP (47 :: r) 0 = 1 :: fstP r 1 := by unfold fstP; simp [slots]
        rw [e]
        simp
      have hz1 : 1 ≤ s.size := by rw [size_list, hr]; simp
      have HL : Hid ((abv s.data.toList).length ≤ 64) := abv_len _ (by rw [← size_list]; omega)
      have HSt : Hid (abv s.data.toList = [[47]] ++ (fstP (s.data.toList.drop 1) 1).map fun j => s.data.toList.take (max (j - 1) 1)) := hstart
      clear hcond hab hr hstart h47
      obtain ⟨i0, hi0, hz0, hz1', hz2⟩ := info_parts Try.infoStrT
      go_enter Try.func18, Try.ntmps18
      go_wp2_with fail
      refine (is_any s hl _).mono ?_
      rintro e w1 ⟨rfl, hb1⟩
      rw [hi]
      have hsz1 := hb1.size
      go_wp2_with (at_builtin; refine wpList_append_own _ rfl _ _ 28 rfl w.heap.size 9 i0 (.string ⟨#[]⟩) 1 16 Try.underlying28 hi0 hz0 hz1' hz2 rfl (by decide) _ _ _ rfl (World.ownsRow_nil _ _ _ _) ⟨w1.heap.size, 0, none⟩ 1 1 [.string slashB] rfl rfl ?c1 ?c2 ?c3 ?c4 ?c5 ?_)
      case c1 => exact cell_one_new _ _ _
      case c2 =>
        intro u hu
        simp only [List.mem_cons, List.not_mem_nil, or_false] at hu
        subst hu; rfl
      case c3 => unfold maxLen; omega
      case c4 => omega
      case c5 => simp; omega
      intro v1 w2 hown1 hgrow1 _
      have HW2 : Hid (w2.ownsRow w.heap.size 9 1 v1 1 [bytesV [47]] ∧ Below w.heap.size w w2) :=
        ⟨hown1, (hb1.alloc hb1.size _).grown hgrow1 (by simp; omega) (fun k hk => by simp [Value.ownBlock] at hk)⟩
      clear hown1 hgrow1 hb1
      go_wp2
      go_loopw [3, 4] (fun v vi wr => ∃ (i : Nat) (pre : List Bs), 1 ≤ i ∧ i ≤ s.size ∧ vi = .int .i64 (i : Int) ∧ Hid (abv s.data.toList = pre ++ (fstP (s.data.toList.drop i) i).map fun j => s.data.toList.take (max (j - 1) 1)) ∧ pre.length ≤ 64 ∧ Hid (wr.ownsRow w.heap.size 9 1 v pre.length (pre.map bytesV)) ∧ Hid (Below w.heap.size w wr)) (fun _ vi _ => s.size - (intOf vi).toNat)
      case atStart => exact ⟨1, [[47]], Nat.le_refl _, hz1, rfl, HSt, by decide, HW2.out.1, HW2.out.2⟩
      case round =>
        obtain ⟨i, pre, hi1, hi2, rfl, HP, hpl, HO, HB⟩ := hrel
        by_cases hlt : i < s.size
        · have hf := fstP_at s.data.toList i (by rw [← size_list]; exact hlt)
          have hby := byte_at s i hlt
          rw [← hby] at hf
          by_cases hb : s[i] = 47
          · rw [if_pos hb] at hf
            have hnat : ((s[i].toNat : Int) == 47) = true := by rw [hb]; rfl
            have HN : Hid (abv s.data.toList = (pre ++ [s.data.toList.take i]) ++ (fstP (s.data.toList.drop (i + 1)) (i + 1)).map fun j => s.data.toList.take (max (j - 1) 1)) := by
              show _ = _
              rw [HP.out, hf]
              simp only [List.map_cons, Nat.add_sub_cancel, Nat.max_eq_left hi1, List.append_assoc, List.cons_append, List.nil_append]
            have hpl2 : pre.length + 1 ≤ 64 := by
              have h1 := HL.out
              rw [HN.out] at h1
              simp only [List.length_append, List.length_cons, List.length_nil] at h1
              omega
            have HV : Hid (bytesV (s.data.toList.take i) = .string (s.extract 0 i)) := by
              show _ = _
              unfold bytesV; rw [pre_eq]
            have hszr := HB.out.size
            clear hf hby hb
            go_wp2_with (at_builtin; refine wpList_append_own _ rfl _ _ 28 rfl w.heap.size 9 i0 (.string ⟨#[]⟩) 1 16 Try.underlying28 hi0 hz0 hz1' hz2 rfl (by decide) _ _ _ rfl (HO.out.alloc _) ⟨wr.heap.size, 0, none⟩ 1 1 [.string (s.extract 0 i)] rfl rfl ?c1 ?c2 ?c3 ?c4 ?c5 ?_)
            case c1 => exact cell_one_new _ _ _
            case c2 =>
              intro u hu
              simp only [List.mem_cons, List.not_mem_nil, or_false] at hu
              subst hu; rfl
            case c3 => unfold maxLen; omega
            case c4 => omega
            case c5 => simp; omega
            intro v' w3 hown' hgrow _
            have HR : Hid (w3.ownsRow w.heap.size 9 1 v' (pre ++ [s.data.toList.take i]).length ((pre ++ [s.data.toList.take i]).map bytesV) ∧ Below w.heap.size w w3) := by
              refine ⟨?_, (HB.out.alloc HB.out.size _).grown hgrow (by simp; omega) (fun k hk => (HO.out.lt k hk).1)⟩
              have e : (pre ++ [s.data.toList.take i]).length = pre.length + 1 := by simp
              rw [e, List.map_append, List.map_cons, List.map_nil, HV.out]
              exact hown'
            clear hown' hgrow
            go_wp2
            go_roundw
            case rel => exact ⟨i + 1, pre ++ [s.data.toList.take i], by omega, by omega, by simp, HN, by simp; omega, HR.out.1, HR.out.2⟩
            case measure => simp [intOf]; omega
          · rw [if_neg hb] at hf
            have hnat : ((s[i].toNat : Int) == 47) = false := by
              rw [beq_eq_false_iff_ne]
              intro e
              exact hb (UInt8.toNat_inj.1 (by show s[i].toNat = 47; omega))
            have HN : Hid (abv s.data.toList = pre ++ (fstP (s.data.toList.drop (i + 1)) (i + 1)).map fun j => s.data.toList.take (max (j - 1) 1)) := by
              show _ = _
              rw [← hf]; exact HP.out
            clear hf hby hb
            go_wp2
            go_roundw
            case rel => exact ⟨i + 1, pre, by omega, by omega, by simp, HN, hpl, HO, HB⟩
            case measure => simp [intOf]; omega
        · have HE : Hid (abv s.data.toList = pre) := by
            show _ = _
            rw [HP.out, List.drop_eq_nil_of_le (by rw [← size_list]; omega)]
            simp [fstP, slots]
          go_wp2
          go_ret
          exact ⟨_, rfl, by rw [HE.out]; exact HO.out, HB.out⟩

end Go.Proofs.Ytgaemldkpfbomaa
