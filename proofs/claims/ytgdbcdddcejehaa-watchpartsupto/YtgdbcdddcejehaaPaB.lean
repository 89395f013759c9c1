/- What the library's Index, Cut, Contains, HasPrefix and LastIndex answer at a slash. -/
import Derived.Test.YtgdbcdddcejehaaPaA
import Derived.Lib.Bytealg
import Derived.Lib.CutLaws
import Derived.Shelf.RegionOpen
import Derived.Shelf.RegionOpenPlain
namespace Go.Proofs.Ytgdbcdddcejehaa
open Go.RowKit Go.Shelf
set_option maxRecDepth 8000

abbrev slashB : ByteArray := ⟨#[47]⟩
abbrev bytesV (l : Bs) : Value := .string ⟨l.toArray⟩

theorem bytes_self (s : ByteArray) : (⟨s.data.toList.toArray⟩ : ByteArray) = s := by cases s; simp

theorem indexByte_slash (l : Bs) : Lib.indexByte l 47 = if 47 ∈ l then ((seg l).length : Int) else -1 := by
  induction l with
  | nil => simp [Lib.indexByte]
  | cons b r ih =>
    by_cases hb : b = 47
    · simp [Lib.indexByte, seg, hb]
    · have hb' : ¬ (47 : UInt8) = b := fun e => hb e.symm
      simp only [Lib.indexByte, seg, if_neg hb, ih, List.mem_cons, hb', false_or]
      by_cases hm : (47 : UInt8) ∈ r
      · simp [hb, hm]
      · simp [hb, hm]

set_option maxHeartbeats 1000000 in
set_option maxRecDepth 100000 in
theorem indexByte_any (s : ByteArray) (c : Int) (w : World) :
    Calls Try.prog 53 #[.string s, .int .u8 c] w fun e w' => e = .returned (.int .i64 (Lib.indexByte s.data.toList c.toNat.toUInt8)) ∧ w' = w := by
  go_enter Try.func53, Try.ntmps53
  go_wp2
  rw [run_callFunc_extern Try.func57 (by kernel_rfl) (by kernel_rfl) (by kernel_rfl) (e := Extern.BytealgIndexByte.indexByte) (by kernel_rfl), Lib.run_indexByteString]
  simp only [Result.andThen]
  rw [Oper.upon_value]
  go_wp2
  go_ret
  exact ⟨rfl, rfl⟩

set_option maxHeartbeats 2000000 in
set_option maxRecDepth 100000 in
theorem index_slash (s : ByteArray) (w : World) :
    Calls Try.prog 52 #[.string s, .string slashB] w fun e w' => e = .returned (.int .i64 (Lib.indexByte s.data.toList 47)) ∧ w' = w := by
  go_enter Try.func52, Try.ntmps52
  go_wp2_with (go_at_call 53; refine (indexByte_any _ _ _).mono ?_; rintro e w' ⟨rfl, rfl⟩)
  · have h : ([47] == s.toList) = true := by assumption
    go_ret
    refine ⟨?_, rfl⟩
    have e : s.data.toList = [47] := by rw [← Lib.toList_data]; exact (beq_iff_eq.1 h).symm
    rw [e]
    simp [Lib.indexByte]
  · go_ret
    exact ⟨rfl, rfl⟩

theorem byte_at (s : ByteArray) (i : Nat) (h : i < s.size) : s[i] = s.data.toList.getD i 0 := by
  rw [List.getD_eq_getElem?_getD, Array.getElem?_toList, Array.getElem?_eq_getElem h]
  rfl

theorem seg_take (l : Bs) : seg l = l.take (seg l).length := by
  rcases seg_split l with ⟨_, h⟩ | ⟨b, h⟩
  · rw [h]; simp
  · obtain ⟨a, ha⟩ : ∃ a, a = seg l := ⟨_, rfl⟩
    rw [← ha] at h ⊢
    rw [h]
    simp

set_option maxHeartbeats 1000000 in
theorem cut1_slash (s : ByteArray) (w : World) (hs : s.size ≤ 4294967296) :
    Calls Try.prog 51 #[.string s, .string slashB] w fun e w' => (∃ b2 b3, e = .returned (.tuple #[bytesV (seg s.data.toList), b2, b3])) ∧ ∃ n, w' = w.drewN n := by
  by_cases hm : (47 : UInt8) ∈ s.data.toList
  · obtain ⟨k, hk⟩ : ∃ k, k = (seg s.data.toList).length := ⟨_, rfl⟩
    have hi : Lib.indexByte s.data.toList 47 = (k : Int) := by rw [indexByte_slash, if_pos hm, hk]
    have hlt : k < s.size := by
      rcases seg_split s.data.toList with ⟨h, _⟩ | ⟨b, h⟩
      · exact absurd hm h
      · have := congrArg List.length h
        rw [← size_list] at this
        simp at this
        omega
    have he : bytesV (seg s.data.toList) = .string (s.extract 0 k) := by
      unfold bytesV; rw [Lib.extract_eq, seg_take, ← hk]; simp
    have c1 : (0 : Int) ≤ ↑k := by omega
    have c2 : (↑k : Int) ≤ ↑s.size := by omega
    have c3 : (0 : Int) ≤ ↑k + 1 := by omega
    have c4 : (↑k + 1 : Int) ≤ ↑s.size := by omega
    have mixed : Try.prog.follows Departure.mixedOrders = true := by kernel_rfl
    have HE : Hid _ := he
    clear he hk hm
    go_enter Try.func51, Try.ntmps51
    go_wp2_with (go_at_call 52; refine (index_slash _ _).mono ?_; rintro e w' ⟨rfl, rfl⟩; rw [hi])
    clear hi
    go_region_o
    go_wp2
    go_ret3
    rw [HE.out]
    exact ⟨⟨_, _, rfl⟩, 1, rfl⟩
  · have hi : Lib.indexByte s.data.toList 47 = -1 := by rw [indexByte_slash, if_neg hm]
    have he : bytesV (seg s.data.toList) = .string s := by unfold bytesV; rw [seg_none hm, bytes_self]
    have HE : Hid _ := he
    clear he hm
    go_enter Try.func51, Try.ntmps51
    go_wp2_with (go_at_call 52; refine (index_slash _ _).mono ?_; rintro e w' ⟨rfl, rfl⟩; rw [hi])
    go_ret3
    rw [HE.out]
    exact ⟨⟨_, _, rfl⟩, 0, rfl⟩

theorem cut_slash (s : ByteArray) (w : World) (hs : s.size ≤ 4294967296) :
    Calls Try.prog 50 #[.string s, .string slashB] w fun e w' => (∃ b2 b3, e = .returned (.tuple #[bytesV (seg s.data.toList), b2, b3])) ∧ ∃ n, w' = w.drewN n := by
  go_enter Try.func50, Try.ntmps50
  go_wp2_with (go_at_call 51; refine (cut1_slash _ _ hs).mono ?_; rintro e w' ⟨⟨b2, b3, rfl⟩, n, rfl⟩)
  go_ret3
  exact ⟨⟨_, _, rfl⟩, _, rfl⟩

/-- Does it begin with a slash? -/
def opens : Bs → Bool
  | [] => false
  | b :: _ => b == 47

set_option maxHeartbeats 400000 in
theorem hasPrefix_slash (s : ByteArray) (w : World) :
    Calls Try.prog 42 #[.string s, .string slashB] w fun e w' => e = .returned (.bool (opens s.data.toList)) ∧ w' = w := by
  by_cases h : 1 ≤ s.size
  · have he : ((s.extract 0 1).toList == [47]) = opens s.data.toList := by
      rw [Lib.toList_data, Lib.extract_eq]
      cases s.data.toList with
      | nil => rfl
      | cons b r => simp [opens]
    have HE : Hid _ := he
    clear he
    go_enter Try.func42, Try.ntmps42
    go_wp2
    go_ret
    rw [← HE.out]
    exact ⟨rfl, rfl⟩
  · have he : opens s.data.toList = false := by
      have : s.data.toList = [] := List.eq_nil_of_length_eq_zero (by rw [← size_list]; omega)
      rw [this]; rfl
    rw [he]
    clear he
    go_enter Try.func42, Try.ntmps42
    go_wp2
    go_ret
    exact ⟨rfl, rfl⟩

end Go.Proofs.Ytgdbcdddcejehaa
