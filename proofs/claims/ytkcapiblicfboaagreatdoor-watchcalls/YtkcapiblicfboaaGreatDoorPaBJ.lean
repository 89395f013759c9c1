/- What path's mayStand, runeFault and sizeFault answer. -/
import Derived.Test.YtkcapiblicfboaaGreatDoorPaQJ
import Derived.Test.YtkcapiblicfboaaGreatDoorMemJ
import Derived.Test.YtkcapiblicfboaaGreatDoorChecked
import Derived.Lib.OthersKept
import Derived.BigQuiet
import Derived.Deep.QuietTactic
import Derived.Lib.Bytealg
import Derived.Lib.CutLaws
import Derived.Shelf.RegionOpen
import Derived.Shelf.RegionOpenPlain
namespace Go.Proofs.YtkcapiblicfboaaGreatDoor
open Go.RowKit
set_option maxRecDepth 8000

def standI (c : Int) : Bool := decide (31 < c ∧ (c < 127 ∨ 159 < c) ∧ (c < 57344 ∨ 63743 < c) ∧ (c < 65520 ∨ 65535 < c))

theorem standI_nat (c : Nat) : standI c = stand c := by
  unfold standI stand
  rw [Bool.eq_iff_iff]
  simp only [decide_eq_true_eq, Bool.and_eq_true, Bool.or_eq_true]
  omega

theorem mayStandI (c : Int) (w : World) : Calls Tryz.prog 107 #[.int .i32 c] w fun e w' => e = .returned (.bool (standI c)) ∧ w' = w := by
  go_enter Tryz.func107, Tryz.ntmps107
  go_wp2
  all_goals (go_ret; refine ⟨?_, rfl⟩; refine congrArg (fun b => Ending.returned (Value.bool b)) ?_; unfold standI; rw [Bool.eq_iff_iff]; simp only [decide_eq_true_eq, Bool.and_eq_true, Bool.or_eq_true, Bool.false_eq_true, true_iff, false_iff])
  all_goals omega

theorem mayStand_any (c : Nat) (w : World) : Calls Tryz.prog 107 #[.int .i32 (c : Int)] w fun e w' => e = .returned (.bool (stand c)) ∧ w' = w := by
  rw [← standI_nat]; exact mayStandI c w

/-- A place, or sound. -/
def plc (o : Option Nat) : Int := ((o.getD sound : Nat) : Int)

theorem sizeFault_any (s : ByteArray) (w : World) : Calls Tryz.prog 98 #[.string s] w fun e w' => e = .returned (.int .i64 (plc (sizeF s.data.toList))) ∧ w' = w := by
  have hl := size_list s
  by_cases h : 64 < s.size
  · have e : plc (sizeF s.data.toList) = 64 := by unfold sizeF; rw [if_pos (by omega)]; rfl
    rw [e]
    clear hl e
    go_enter Tryz.func98, Tryz.ntmps98
    go_wp2
    go_ret
    exact ⟨rfl, rfl⟩
  · have e : plc (sizeF s.data.toList) = 9223372036854775807 := by unfold sizeF; rw [if_neg (by omega)]; rfl
    rw [e]
    clear hl e
    go_enter Tryz.func98, Tryz.ntmps98
    go_wp2
    go_ret
    exact ⟨rfl, rfl⟩

theorem below_iter (w : World) (s : ByteArray) (p : Nat) : Below w.heap.size w (w.iter s p) := (Below.refl _ w).alloc (Nat.le_refl _) _

set_option maxHeartbeats 1000000 in
theorem runeFault_any (s : ByteArray) (w : World) :
    Calls Tryz.prog 96 #[.string s] w fun e w' => e = .returned (.int .i64 (plc (rf s.data.toList))) ∧ Below w.heap.size w w' := by
  go_enter Tryz.func96, Tryz.ntmps96
  go_wp2
  go_loopw [2] (fun _ wr => ∃ pos : Nat, wr = w.iter s pos ∧ pos ≤ s.size ∧ Hid ((rf (s.data.toList.drop pos)).map (· + pos) = rf s.data.toList)) (fun _ wr => s.size - wr.iterPos w.heap.size)
  case atStart => exact ⟨0, rfl, Nat.zero_le _, by show _ = _; simp⟩
  case round =>
    obtain ⟨pos, rfl, hle, HR⟩ := hrel
    by_cases hp : pos < s.size
    · have hnx : ∀ ty, (Instr.next (.pointer (some ⟨w.heap.size, 0, none⟩)) true ty).run Tryz.prog (w.iter s pos) = _ := fun ty => run_next_any w s pos ty hp
      have hne : s.data.toList.drop pos ≠ [] := fun e => by
        have := congrArg List.length e
        rw [List.length_drop, ← size_list] at this
        simp at this; omega
      have hwd := dec_width _ hne
      rw [← decode_dec, List.length_drop, ← size_list] at hwd
      have hrc := rf_cons hne
      rw [← decode_dec] at hrc
      cases hst : stand (Utf8.decode s pos).1 with
      | true =>
        rw [hst] at hrc
        have HN : Hid ((rf (s.data.toList.drop (pos + (Utf8.decode s pos).2))).map (· + (pos + (Utf8.decode s pos).2)) = rf s.data.toList) := by
          show _ = _
          rw [← HR.out, hrc, if_pos rfl, List.drop_drop, Option.map_map]
          congr 1
          funext x
          simp only [Function.comp]
          omega
        have hpos0 := World.iterPos_iter w s pos
        have hpos1 := World.iterPos_iter w s (pos + (Utf8.decode s pos).2)
        clear hrc hne
        go_wp2_with fail
        refine (mayStand_any _ _).mono ?_
        rintro e w1 ⟨rfl, rfl⟩
        rw [hst]
        go_wp2
        go_roundw
        case rel => exact ⟨_, rfl, by omega, HN⟩
        case measure => rw [hpos0, hpos1]; omega
      | false =>
        rw [hst] at hrc
        have HE : Hid (rf s.data.toList = some pos) := by
          show _ = _
          rw [← HR.out, hrc]
          simp
        clear hrc hne
        go_wp2_with fail
        refine (mayStand_any _ _).mono ?_
        rintro e w1 ⟨rfl, rfl⟩
        rw [hst]
        go_wp2
        go_ret
        exact ⟨by rw [HE.out]; rfl, below_iter w s _⟩
    · have hnx : ∀ ty, (Instr.next (.pointer (some ⟨w.heap.size, 0, none⟩)) true ty).run Tryz.prog (w.iter s pos) = _ := fun ty => run_next_end w s pos ty hp
      have e : rf s.data.toList = none := by
        rw [← HR.out, List.drop_eq_nil_of_le (by rw [← size_list]; omega), rf_nil]; rfl
      have HE : Hid (rf s.data.toList = none) := e
      clear e
      go_wp2
      go_ret
      exact ⟨by rw [HE.out]; rfl, below_iter w s pos⟩

end Go.Proofs.YtkcapiblicfboaaGreatDoor

/- What the library's Index, Cut, Contains, HasPrefix and LastIndex answer at a slash. -/
namespace Go.Proofs.YtkcapiblicfboaaGreatDoor
open Go.RowKit Go.Shelf
set_option maxRecDepth 8000

abbrev slashB : ByteArray := ⟨#[47]⟩
abbrev bytesV (l : Bs) : Value := .string ⟨l.toArray⟩

theorem bytes_self (s : ByteArray) : (⟨s.data.toList.toArray⟩ : ByteArray) = s := by cases s; simp

theorem indexByte_slash (l : Bs) : Lib.indexByte l 47 = if 47 ∈ l then ((seg l).length : Int) else -1 := by
  induction l with
  | nil => simp [Lib.indexByte]
  | cons b r ih =>
    by_cases hb : b = 47
    · simp [Lib.indexByte, seg, hb]
    · have hb' : ¬ (47 : UInt8) = b := fun e => hb e.symm
      simp only [Lib.indexByte, seg, if_neg hb, ih, List.mem_cons, hb', false_or]
      by_cases hm : (47 : UInt8) ∈ r
      · simp [hb, hm]
      · simp [hb, hm]

set_option maxHeartbeats 1000000 in
set_option maxRecDepth 100000 in
theorem indexByte_any (s : ByteArray) (c : Int) (w : World) :
    Calls Tryz.prog 120 #[.string s, .int .u8 c] w fun e w' => e = .returned (.int .i64 (Lib.indexByte s.data.toList c.toNat.toUInt8)) ∧ w' = w := by
  go_enter Tryz.func120, Tryz.ntmps120
  go_wp2
  rw [run_callFunc_extern Tryz.func124 (by kernel_rfl) (by kernel_rfl) (by kernel_rfl) (e := Extern.BytealgIndexByte.indexByte) (by kernel_rfl), Lib.run_indexByteString]
  simp only [Result.andThen]
  rw [Oper.upon_value]
  go_wp2
  go_ret
  exact ⟨rfl, rfl⟩

set_option maxHeartbeats 2000000 in
set_option maxRecDepth 100000 in
theorem index_slash (s : ByteArray) (w : World) :
    Calls Tryz.prog 119 #[.string s, .string slashB] w fun e w' => e = .returned (.int .i64 (Lib.indexByte s.data.toList 47)) ∧ w' = w := by
  go_enter Tryz.func119, Tryz.ntmps119
  go_wp2_with (go_at_call 120; refine (indexByte_any _ _ _).mono ?_; rintro e w' ⟨rfl, rfl⟩)
  · have h : ([47] == s.toList) = true := by assumption
    go_ret
    refine ⟨?_, rfl⟩
    have e : s.data.toList = [47] := by rw [← Lib.toList_data]; exact (beq_iff_eq.1 h).symm
    rw [e]
    simp [Lib.indexByte]
  · go_ret
    exact ⟨rfl, rfl⟩

theorem byte_at (s : ByteArray) (i : Nat) (h : i < s.size) : s[i] = s.data.toList.getD i 0 := by
  rw [List.getD_eq_getElem?_getD, Array.getElem?_toList, Array.getElem?_eq_getElem h]
  rfl

theorem seg_take (l : Bs) : seg l = l.take (seg l).length := by
  rcases seg_split l with ⟨_, h⟩ | ⟨b, h⟩
  · rw [h]; simp
  · obtain ⟨a, ha⟩ : ∃ a, a = seg l := ⟨_, rfl⟩
    rw [← ha] at h ⊢
    rw [h]
    simp

set_option maxHeartbeats 1000000 in
theorem cut1_slash (s : ByteArray) (w : World) (hs : s.size ≤ 4294967296) :
    Calls Tryz.prog 118 #[.string s, .string slashB] w fun e w' => (∃ b2 b3, e = .returned (.tuple #[bytesV (seg s.data.toList), b2, b3])) ∧ ∃ n, w' = w.drewN n := by
  by_cases hm : (47 : UInt8) ∈ s.data.toList
  · obtain ⟨k, hk⟩ : ∃ k, k = (seg s.data.toList).length := ⟨_, rfl⟩
    have hi : Lib.indexByte s.data.toList 47 = (k : Int) := by rw [indexByte_slash, if_pos hm, hk]
    have hlt : k < s.size := by
      rcases seg_split s.data.toList with ⟨h, _⟩ | ⟨b, h⟩
      · exact absurd hm h
      · have := congrArg List.length h
        rw [← size_list] at this
        simp at this
        omega
    have he : bytesV (seg s.data.toList) = .string (s.extract 0 k) := by
      unfold bytesV; rw [Lib.extract_eq, seg_take, ← hk]; simp
    have c1 : (0 : Int) ≤ ↑k := by omega
    have c2 : (↑k : Int) ≤ ↑s.size := by omega
    have c3 : (0 : Int) ≤ ↑k + 1 := by omega
    have c4 : (↑k + 1 : Int) ≤ ↑s.size := by omega
    have mixed : Tryz.prog.follows Departure.mixedOrders = true := by kernel_rfl
    have HE : Hid _ := he
    clear he hk hm
    go_enter Tryz.func118, Tryz.ntmps118
    go_wp2_with (go_at_call 119; refine (index_slash _ _).mono ?_; rintro e w' ⟨rfl, rfl⟩; rw [hi])
    clear hi
    go_region_o
    go_wp2
    go_ret3
    rw [HE.out]
    exact ⟨⟨_, _, rfl⟩, 1, rfl⟩
  · have hi : Lib.indexByte s.data.toList 47 = -1 := by rw [indexByte_slash, if_neg hm]
    have he : bytesV (seg s.data.toList) = .string s := by unfold bytesV; rw [seg_none hm, bytes_self]
    have HE : Hid _ := he
    clear he hm
    go_enter Tryz.func118, Tryz.ntmps118
    go_wp2_with (go_at_call 119; refine (index_slash _ _).mono ?_; rintro e w' ⟨rfl, rfl⟩; rw [hi])
    go_ret3
    rw [HE.out]
    exact ⟨⟨_, _, rfl⟩, 0, rfl⟩

theorem cut_slash (s : ByteArray) (w : World) (hs : s.size ≤ 4294967296) :
    Calls Tryz.prog 115 #[.string s, .string slashB] w fun e w' => (∃ b2 b3, e = .returned (.tuple #[bytesV (seg s.data.toList), b2, b3])) ∧ ∃ n, w' = w.drewN n := by
  go_enter Tryz.func115, Tryz.ntmps115
  go_wp2_with (go_at_call 118; refine (cut1_slash _ _ hs).mono ?_; rintro e w' ⟨⟨b2, b3, rfl⟩, n, rfl⟩)
  go_ret3
  exact ⟨⟨_, _, rfl⟩, _, rfl⟩

/-- Does it begin with a slash? -/
def opens : Bs → Bool
  | [] => false
  | b :: _ => b == 47

set_option maxHeartbeats 400000 in
theorem hasPrefix_slash (s : ByteArray) (w : World) :
    Calls Tryz.prog 95 #[.string s, .string slashB] w fun e w' => e = .returned (.bool (opens s.data.toList)) ∧ w' = w := by
  by_cases h : 1 ≤ s.size
  · have he : ((s.extract 0 1).toList == [47]) = opens s.data.toList := by
      rw [Lib.toList_data, Lib.extract_eq]
      cases s.data.toList with
      | nil => rfl
      | cons b r => simp [opens]
    have HE : Hid _ := he
    clear he
    go_enter Tryz.func95, Tryz.ntmps95
    go_wp2
    go_ret
    rw [← HE.out]
    exact ⟨rfl, rfl⟩
  · have he : opens s.data.toList = false := by
      have : s.data.toList = [] := List.eq_nil_of_length_eq_zero (by rw [← size_list]; omega)
      rw [this]; rfl
    rw [he]
    clear he
    go_enter Tryz.func95, Tryz.ntmps95
    go_wp2
    go_ret
    exact ⟨rfl, rfl⟩

end Go.Proofs.YtkcapiblicfboaaGreatDoor
