/- What the library's Index, Cut, Contains, HasPrefix and LastIndex answer at a slash. -/
import Derived.Test.YtgaemldkpfbomabDoorPaA
import Derived.Lib.Bytealg
import Derived.Lib.CutLaws
import Derived.Shelf.RegionOpen
import Derived.Shelf.RegionOpenPlain
namespace Go.Proofs.YtgaemldkpfbomabDoor
open Go.RowKit Go.Shelf
set_option maxRecDepth 8000

abbrev slashB : ByteArray := ⟨#[47]⟩
abbrev bytesV (l : Bs) : Value := .string ⟨l.toArray⟩

theorem bytes_self (s : ByteArray) : (⟨s.data.toList.toArray⟩ : ByteArray) = s := by cases s; simp

theorem indexByte_slash (l : Bs) : Lib.indexByte l 47 = if 47 ∈ l then ((seg l).length : Int) else -1 := by
  induction l with
  | nil => simp [Lib.indexByte]
  | cons b r ih =>
    by_cases hb : b = 47
    · simp [Lib.indexByte, seg, hb]
    · have hb' : ¬ (47 : UInt8) = b := fun e => hb e.symm
      simp only [Lib.indexByte, seg, if_neg hb, ih, List.mem_cons, hb', false_or]
      by_cases hm : (47 : UInt8) ∈ r
      · simp [hb, hm]
      · simp [hb, hm]

set_option maxHeartbeats 1000000 in
set_option maxRecDepth 100000 in
theorem indexByte_any (s : ByteArray) (c : Int) (w : World) :
    Calls Tryd.prog 59 #[.string s, .int .u8 c] w fun e w' => e = .returned (.int .i64 (Lib.indexByte s.data.toList c.toNat.toUInt8)) ∧ w' = w := by
  go_enter Tryd.func59, Tryd.ntmps59
  go_wp2
  rw [run_callFunc_extern Tryd.func63 (by kernel_rfl) (by kernel_rfl) (by kernel_rfl) (e := Extern.BytealgIndexByte.indexByte) (by kernel_rfl), Lib.run_indexByteString]
  simp only [Result.andThen]
  rw [Oper.upon_value]
  go_wp2
  go_ret
  exact ⟨rfl, rfl⟩

set_option maxHeartbeats 2000000 in
set_option maxRecDepth 100000 in
theorem index_slash (s : ByteArray) (w : World) :
    Calls Tryd.prog 55 #[.string s, .string slashB] w fun e w' => e = .returned (.int .i64 (Lib.indexByte s.data.toList 47)) ∧ w' = w := by
  go_enter Tryd.func55, Tryd.ntmps55
  go_wp2_with (go_at_call 59; refine (indexByte_any _ _ _).mono ?_; rintro e w' ⟨rfl, rfl⟩)
  · have h : ([47] == s.toList) = true := by assumption
    go_ret
    refine ⟨?_, rfl⟩
    have e : s.data.toList = [47] := by rw [← Lib.toList_data]; exact (beq_iff_eq.1 h).symm
    rw [e]
    simp [Lib.indexByte]
  · go_ret
    exact ⟨rfl, rfl⟩

theorem byte_at (s : ByteArray) (i : Nat) (h : i < s.size) : s[i] = s.data.toList.getD i 0 := by
  rw [List.getD_eq_getElem?_getD, Array.getElem?_toList, Array.getElem?_eq_getElem h]
  rfl

theorem seg_take (l : Bs) : seg l = l.take (seg l).length := by
  rcases seg_split l with ⟨_, h⟩ | ⟨b, h⟩
  · rw [h]; simp
  · obtain ⟨a, ha⟩ : ∃ a, a = seg l := ⟨_, rfl⟩
    rw [← ha] at h ⊢
    rw [h]
    simp

set_option maxHeartbeats 1000000 in
theorem cut1_slash (s : ByteArray) (w : World) (hs : s.size ≤ 4294967296) :
    Calls Tryd.prog 58 #[.string s, .string slashB] w fun e w' => (∃ b2 b3, e = .returned (.tuple #[bytesV (seg s.data.toList), b2, b3])) ∧ ∃ n, w' = w.drewN n := by
  by_cases hm : (47 : UInt8) ∈ s.data.toList
  · obtain ⟨k, hk⟩ : ∃ k, k = (seg s.data.toList).length := ⟨_, rfl⟩
    have hi : Lib.indexByte s.data.toList 47 = (k : Int) := by rw [indexByte_slash, if_pos hm, hk]
    have hlt : k < s.size := by
      rcases seg_split s.data.toList with ⟨h, _⟩ | ⟨b, h⟩
      · exact absurd hm h
      · have := congrArg List.length h
        rw [← size_list] at this
        simp at this
        omega
    have he : bytesV (seg s.data.toList) = .string (s.extract 0 k) := by
      unfold bytesV; rw [Lib.extract_eq, seg_take, ← hk]; simp
    have c1 : (0 : Int) ≤ ↑k := by omega
    have c2 : (↑k : Int) ≤ ↑s.size := by omega
    have c3 : (0 : Int) ≤ ↑k + 1 := by omega
    have c4 : (↑k + 1 : Int) ≤ ↑s.size := by omega
    have mixed : Tryd.prog.follows Departure.mixedOrders = true := by kernel_rfl
    have HE : Hid _ := he
    clear he hk hm
    go_enter Tryd.func58, Tryd.ntmps58
    go_wp2_with (go_at_call 55; refine (index_slash _ _).mono ?_; rintro e w' ⟨rfl, rfl⟩; rw [hi])
    clear hi
    go_region_o
    go_wp2
    go_ret3
    rw [HE.out]
    exact ⟨⟨_, _, rfl⟩, 1, rfl⟩
  · have hi : Lib.indexByte s.data.toList 47 = -1 := by rw [indexByte_slash, if_neg hm]
    have he : bytesV (seg s.data.toList) = .string s := by unfold bytesV; rw [seg_none hm, bytes_self]
    have HE : Hid _ := he
    clear he hm
    go_enter Tryd.func58, Tryd.ntmps58
    go_wp2_with (go_at_call 55; refine (index_slash _ _).mono ?_; rintro e w' ⟨rfl, rfl⟩; rw [hi])
    go_ret3
    rw [HE.out]
    exact ⟨⟨_, _, rfl⟩, 0, rfl⟩

theorem cut_slash (s : ByteArray) (w : World) (hs : s.size ≤ 4294967296) :
    Calls Tryd.prog 53 #[.string s, .string slashB] w fun e w' => (∃ b2 b3, e = .returned (.tuple #[bytesV (seg s.data.toList), b2, b3])) ∧ ∃ n, w' = w.drewN n := by
  go_enter Tryd.func53, Tryd.ntmps53
  go_wp2_with (go_at_call 58; refine (cut1_slash _ _ hs).mono ?_; rintro e w' ⟨⟨b2, b3, rfl⟩, n, rfl⟩)
  go_ret3
  exact ⟨⟨_, _, rfl⟩, _, rfl⟩

theorem contains_slash (s : ByteArray) (w : World) :
    Calls Tryd.prog 30 #[.string s, .string slashB] w fun e w' => e = .returned (.bool (decide ((47 : UInt8) ∈ s.data.toList))) ∧ w' = w := by
  have hi := indexByte_slash s.data.toList
  by_cases hm : (47 : UInt8) ∈ s.data.toList
  · rw [decide_eq_true hm]
    rw [if_pos hm] at hi
    generalize (seg s.data.toList).length = k at hi
    clear hm
    go_enter Tryd.func30, Tryd.ntmps30
    go_wp2_with (first | (go_at_call 55; refine (index_slash _ _).mono ?_; rintro e w' ⟨rfl, rfl⟩; rw [hi]) | go_in)
    go_ret
    exact ⟨rfl, rfl⟩
  · rw [decide_eq_false hm]
    rw [if_neg hm] at hi
    clear hm
    go_enter Tryd.func30, Tryd.ntmps30
    go_wp2_with (first | (go_at_call 55; refine (index_slash _ _).mono ?_; rintro e w' ⟨rfl, rfl⟩; rw [hi]) | go_in)
    go_ret
    exact ⟨rfl, rfl⟩

/-- Does it begin with a slash? -/
def opens : Bs → Bool
  | [] => false
  | b :: _ => b == 47

set_option maxHeartbeats 400000 in
theorem hasPrefix_slash (s : ByteArray) (w : World) :
    Calls Tryd.prog 20 #[.string s, .string slashB] w fun e w' => e = .returned (.bool (opens s.data.toList)) ∧ w' = w := by
  by_cases h : 1 ≤ s.size
  · have he : ((s.extract 0 1).toList == [47]) = opens s.data.toList := by
      rw [Lib.toList_data, Lib.extract_eq]
      cases s.data.toList with
      | nil => rfl
      | cons b r => simp [opens]
    have HE : Hid _ := he
    clear he
    go_enter Tryd.func20, Tryd.ntmps20
    go_wp2
    go_ret
    rw [← HE.out]
    exact ⟨rfl, rfl⟩
  · have he : opens s.data.toList = false := by
      have : s.data.toList = [] := List.eq_nil_of_length_eq_zero (by rw [← size_list]; omega)
      rw [this]; rfl
    rw [he]
    clear he
    go_enter Tryd.func20, Tryd.ntmps20
    go_wp2
    go_ret
    exact ⟨rfl, rfl⟩

set_option maxHeartbeats 1000000 in
theorem lastByte_slash (s : ByteArray) (a b : Bs) (hs : s.data.toList = a ++ 47 :: b) (hb : NoSlash b) (hl : s.size ≤ 4294967296) (w : World) :
    Calls Tryd.prog 42 #[.string s, .int .u8 47] w fun e w' => e = .returned (.int .i64 (a.length : Int)) ∧ w' = w := by
  have hz : s.size = a.length + 1 + b.length := by rw [size_list, hs]; simp; omega
  have ha : a.length < s.size := by omega
  have HS : Hid (s.data.toList = a ++ 47 :: b ∧ NoSlash b ∧ s.size = a.length + 1 + b.length) := ⟨hs, hb, hz⟩
  clear hs hb hz
  go_enter Tryd.func42, Tryd.ntmps42
  go_wp2
  go_loop [5] (fun vi => ∃ k : Nat, a.length < k ∧ k ≤ s.size ∧ vi = .int .i64 ((k : Int) - 1)) (fun vi => ((RowKit.intOf vi) + 1).toNat)
  case atStart => exact ⟨s.size, ha, Nat.le_refl _, by first | rfl | (congr 1; omega)⟩
  case round =>
    obtain ⟨k, hk, hk2, rfl⟩ := hrel
    have hc : s[k - 1]'(by omega) = (a ++ 47 :: b).getD (k - 1) 0 := by rw [byte_at, HS.out.1]
    have hH : Hid ((s[k - 1]'(by omega) = 47) ↔ k = a.length + 1) := by
      show _ ↔ _
      rw [hc]
      constructor
      · intro h
        by_cases he : k = a.length + 1
        · exact he
        · exfalso
          rw [List.getD_eq_getElem?_getD, List.getElem?_append_right (by omega)] at h
          obtain ⟨j, hj⟩ : ∃ j, k - 1 - a.length = j + 1 := ⟨k - 1 - a.length - 1, by omega⟩
          rw [hj, List.getElem?_cons_succ] at h
          have hz := HS.out.2.2
          rw [List.getElem?_eq_getElem (by omega)] at h
          exact HS.out.2.1 (by rw [← h]; exact List.getElem_mem _)
      · intro he
        rw [he, Nat.add_sub_cancel]
        simp [List.getD_eq_getElem?_getD]
    clear hc
    go_wp2
    · have hc : (((s[k - 1]'(by omega)).toNat : Int) == 47) = true := by assumption
      have h1 : s[k - 1]'(by omega) = 47 := by
        have := beq_iff_eq.1 hc
        have : (s[k - 1]'(by omega)).toNat = 47 := by omega
        exact UInt8.toNat_inj.1 this
      have hk' := hH.out.1 h1
      go_ret
      refine ⟨ret_int ?_, rfl⟩
      omega
    · have hc : (((s[k - 1]'(by omega)).toNat : Int) == 47) = false := by assumption
      have h1 : ¬ k = a.length + 1 := fun e => by
        have := hH.out.2 e
        rw [this] at hc
        simp at hc
      refine ⟨⟨k - 1, by omega, by omega, by congr 1; omega⟩, ?_⟩
      simp [RowKit.intOf]; omega

theorem lastIndex_slash (s : ByteArray) (a b : Bs) (hs : s.data.toList = a ++ 47 :: b) (hb : NoSlash b) (hl : s.size ≤ 4294967296) (w : World) :
    Calls Tryd.prog 28 #[.string s, .string slashB] w fun e w' => e = .returned (.int .i64 (a.length : Int)) ∧ w' = w := by
  have H : Hid (s.data.toList = a ++ 47 :: b ∧ NoSlash b) := ⟨hs, hb⟩
  clear hs hb
  go_enter Tryd.func28, Tryd.ntmps28
  go_wp2_with (go_at_call 42; refine (lastByte_slash _ a b H.out.1 H.out.2 hl _).mono ?_; rintro e w' ⟨rfl, rfl⟩)
  go_ret
  exact ⟨rfl, rfl⟩

end Go.Proofs.YtgaemldkpfbomabDoor
