/- What the library's Index at a dot and Cut at a slash answer. -/
import Derived.Test.YtgoiefhhbgollaaGreatDoorQbQJ
import Derived.Lib.Bytealg
import Derived.Lib.CutLaws
import Derived.Shelf.RegionOpen
import Derived.Shelf.RegionOpenPlain
namespace Go.Proofs.YtgoiefhhbgollaaGreatDoor
open Go.RowKit Go.Shelf
set_option maxRecDepth 8000

abbrev slashB : ByteArray := ⟨#[47]⟩
abbrev dotB : ByteArray := ⟨#[46]⟩
abbrev bytesV (l : Bs) : Value := .string ⟨l.toArray⟩

theorem bytes_self (s : ByteArray) : (⟨s.data.toList.toArray⟩ : ByteArray) = s := by cases s; simp

theorem indexByte_at (c : UInt8) (l : Bs) : Lib.indexByte l c = if c ∈ l then ((hdC c l).length : Int) else -1 := by
  induction l with
  | nil => simp [Lib.indexByte]
  | cons b r ih =>
    by_cases hb : b = c
    · simp [Lib.indexByte, hdC, hb]
    · have hb' : ¬ c = b := fun e => hb e.symm
      simp only [Lib.indexByte, hdC, if_neg hb, ih, List.mem_cons, hb', false_or]
      by_cases hm : c ∈ r
      · simp [hb, hm]
      · simp [hb, hm]

set_option maxHeartbeats 1000000 in
set_option maxRecDepth 100000 in
theorem indexByte_any (s : ByteArray) (c : Int) (w : World) :
    Calls Tryz.prog 140 #[.string s, .int .u8 c] w fun e w' => e = .returned (.int .i64 (Lib.indexByte s.data.toList c.toNat.toUInt8)) ∧ w' = w := by
  go_enter Tryz.func140, Tryz.ntmps140
  go_wp2
  rw [run_callFunc_extern Tryz.func144 (by kernel_rfl) (by kernel_rfl) (by kernel_rfl) (e := Extern.BytealgIndexByte.indexByte) (by kernel_rfl), Lib.run_indexByteString]
  simp only [Result.andThen]
  rw [Oper.upon_value]
  go_wp2
  go_ret
  exact ⟨rfl, rfl⟩

set_option maxHeartbeats 2000000 in
set_option maxRecDepth 100000 in
theorem index_slash (s : ByteArray) (w : World) :
    Calls Tryz.prog 138 #[.string s, .string slashB] w fun e w' => e = .returned (.int .i64 (Lib.indexByte s.data.toList 47)) ∧ w' = w := by
  go_enter Tryz.func138, Tryz.ntmps138
  go_wp2_with (go_at_call 140; refine (indexByte_any _ _ _).mono ?_; rintro e w' ⟨rfl, rfl⟩)
  · have h : ([47] == s.toList) = true := by assumption
    go_ret
    refine ⟨?_, rfl⟩
    have e : s.data.toList = [47] := by rw [← Lib.toList_data]; exact (beq_iff_eq.1 h).symm
    rw [e]
    simp [Lib.indexByte]
  · go_ret
    exact ⟨rfl, rfl⟩

set_option maxHeartbeats 2000000 in
set_option maxRecDepth 100000 in
theorem index_dot (s : ByteArray) (w : World) :
    Calls Tryz.prog 138 #[.string s, .string dotB] w fun e w' => e = .returned (.int .i64 (Lib.indexByte s.data.toList 46)) ∧ w' = w := by
  go_enter Tryz.func138, Tryz.ntmps138
  go_wp2_with (go_at_call 140; refine (indexByte_any _ _ _).mono ?_; rintro e w' ⟨rfl, rfl⟩)
  · have h : ([46] == s.toList) = true := by assumption
    go_ret
    refine ⟨?_, rfl⟩
    have e : s.data.toList = [46] := by rw [← Lib.toList_data]; exact (beq_iff_eq.1 h).symm
    rw [e]
    simp [Lib.indexByte]
  · go_ret
    exact ⟨rfl, rfl⟩

theorem index2_dot (s : ByteArray) (w : World) :
    Calls Tryz.prog 137 #[.string s, .string dotB] w fun e w' => e = .returned (.int .i64 (Lib.indexByte s.data.toList 46)) ∧ w' = w := by
  go_enter Tryz.func137, Tryz.ntmps137
  go_wp2_with (go_at_call 138; refine (index_dot _ _).mono ?_; rintro e w' ⟨rfl, rfl⟩)
  go_ret
  exact ⟨rfl, rfl⟩

theorem hd_extract {s : ByteArray} {c : UInt8} (hm : c ∈ s.data.toList) : (hdC c s.data.toList).length < s.size ∧ bytesV (hdC c s.data.toList) = .string (s.extract 0 (hdC c s.data.toList).length) ∧ bytesV (tlC c s.data.toList) = .string (s.extract ((hdC c s.data.toList).length + 1) s.size) := by
  rcases hdC_split c s.data.toList with ⟨h1, _, _⟩ | ⟨_, _, h3⟩
  · exact absurd hm h1
  · have hlen : s.size = (hdC c s.data.toList).length + ((tlC c s.data.toList).length + 1) := by
      rw [size_list]
      have := congrArg List.length h3
      simpa using this
    have key : ∀ h t : Bs, s.data.toList = h ++ c :: t → s.data.toList.take h.length = h ∧ s.data.toList.drop (h.length + 1) = t := by
      intro h t e
      rw [e]
      refine ⟨by simp, ?_⟩
      rw [show h ++ c :: t = (h ++ [c]) ++ t by simp, show h.length + 1 = (h ++ [c]).length by simp, List.drop_left]
    obtain ⟨k1, k2⟩ := key _ _ h3
    refine ⟨by omega, ?_, ?_⟩
    · unfold bytesV
      rw [Lib.extract_eq]
      simp only [List.drop_zero, Nat.sub_zero]
      rw [k1]
    · unfold bytesV
      rw [Lib.extract_eq, k2, List.take_of_length_le (by omega)]

set_option maxHeartbeats 1000000 in
theorem cut1_slash (s : ByteArray) (w : World) (hs : s.size ≤ 4294967296) :
    Calls Tryz.prog 134 #[.string s, .string slashB] w fun e w' => e = .returned (.tuple #[bytesV (hdC 47 s.data.toList), bytesV (tlC 47 s.data.toList), .bool (decide (47 ∈ s.data.toList))]) ∧ ∃ n, w' = w.drewN n := by
  by_cases hm : (47 : UInt8) ∈ s.data.toList
  · rw [decide_eq_true hm]
    obtain ⟨hlt, he1, he2⟩ := hd_extract hm
    obtain ⟨k, hk⟩ : ∃ k, k = (hdC 47 s.data.toList).length := ⟨_, rfl⟩
    rw [he1, he2]
    rw [← hk] at hlt ⊢
    have hi : Lib.indexByte s.data.toList 47 = (k : Int) := by rw [indexByte_at, if_pos hm, hk]
    have c1 : (0 : Int) ≤ ↑k := by omega
    have c2 : (↑k : Int) ≤ ↑s.size := by omega
    have c3 : (0 : Int) ≤ ↑k + 1 := by omega
    have c4 : (↑k + 1 : Int) ≤ ↑s.size := by omega
    have mixed : Tryz.prog.follows Departure.mixedOrders = true := by kernel_rfl
    clear he1 he2 hk hm
    go_enter Tryz.func134, Tryz.ntmps134
    go_wp2_with (go_at_call 138; refine (index_slash _ _).mono ?_; rintro e w' ⟨rfl, rfl⟩; rw [hi])
    clear hi
    go_region_o
    go_wp2
    go_ret3
    exact ⟨rfl, 1, rfl⟩
  · rw [decide_eq_false hm]
    have hi : Lib.indexByte s.data.toList 47 = -1 := by rw [indexByte_at, if_neg hm]
    have he : bytesV (hdC 47 s.data.toList) = .string s ∧ bytesV (tlC 47 s.data.toList) = .string ⟨#[]⟩ := by
      rcases hdC_split 47 s.data.toList with ⟨_, h2, h3⟩ | ⟨h1, _, _⟩
      · unfold bytesV; rw [h2, h3, bytes_self]; exact ⟨rfl, rfl⟩
      · exact absurd h1 hm
    rw [he.1, he.2]
    clear he hm
    go_enter Tryz.func134, Tryz.ntmps134
    go_wp2_with (go_at_call 138; refine (index_slash _ _).mono ?_; rintro e w' ⟨rfl, rfl⟩; rw [hi])
    go_ret3
    exact ⟨rfl, 0, rfl⟩

theorem cut_slash (s : ByteArray) (w : World) (hs : s.size ≤ 4294967296) :
    Calls Tryz.prog 132 #[.string s, .string slashB] w fun e w' => e = .returned (.tuple #[bytesV (hdC 47 s.data.toList), bytesV (tlC 47 s.data.toList), .bool (decide (47 ∈ s.data.toList))]) ∧ ∃ n, w' = w.drewN n := by
  have h := fun w => cut1_slash s w hs
  generalize decide (47 ∈ s.data.toList) = c at h ⊢
  go_enter Tryz.func132, Tryz.ntmps132
  go_wp2_with (go_at_call 134; refine (h _).mono ?_; rintro e w' ⟨rfl, n, rfl⟩)
  go_ret3
  exact ⟨rfl, _, rfl⟩

end Go.Proofs.YtgoiefhhbgollaaGreatDoor
