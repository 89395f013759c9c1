/- What path.Sequence answers: a text with a number behind it, checked. -/
import Derived.Test.YtgaemldkpfbomaaDoorPcA
import Derived.Test.YtgaemldkpfbomaaDoorShelf5
namespace Go.Proofs.YtgaemldkpfbomaaDoor
open Go.RowKit Go.Shelf
set_option maxRecDepth 8000

/-- The table that strconv's numerals read. -/
abbrev Tab (w : World) : Prop := Lib.TabIs Tryd.prog w "internal/strconv.uint64pow10" .u64 Lib.pow10Tab

theorem tab_global : Tryd.prog.globalNamed "internal/strconv.uint64pow10" = some 0 := by kernel_rfl

theorem Tab.below {B : Nat} {w w' : World} (h : Tab w) (hb : Below B w w') (hB : 0 < B) : Tab w' := var?_below hb tab_global hB h

theorem Tab.lt {w : World} (h : Tab w) : 0 < w.heap.size := by
  have := World.block_lt_of_cell? w _ (Lib.TabIs.cell h tab_global 0 (by decide)); simpa using this

theorem Tab.later {w w' : World} (h : Tab w) (hb : Below w.heap.size w w') : Tab w' := h.below hb h.lt

/-- A number behind a text: with its sign, in ten bytes at least. -/
def seqD (n : Int) : Bs := if n < 0 then 45 :: (List.replicate (9 - (Lib.decDigits n.natAbs).length) 48 ++ Lib.decDigits n.natAbs) else List.replicate (10 - (Lib.decDigits n.natAbs).length) 48 ++ Lib.decDigits n.natAbs

theorem rep_zero (c : Nat) : Lib.repeatL [48] c = List.replicate c 48 := by
  have := Lib.repeatL_replicate 48 1 c
  simpa using this

theorem format_any (u : Nat) (hu : u ≤ 2147483648) (w : World) (ht : Tab w) :
    Calls Tryd.prog 7 #[.int .i64 (u : Int), .int .i64 10] w fun e w' => e = .returned (bytesV (Lib.decDigits u)) ∧ Below w.heap.size w w' := by
  refine (Tryd.strconv_FormatInt_10 (u : Int) (by omega) (by omega) w ht).mono ?_
  rintro e w1 ⟨rfl, k, os, rfl⟩
  refine ⟨?_, rfl, rfl, rfl, by simp [Sort.grow], fun i hi => by show (w.heap ++ os)[i]? = _; rw [Array.getElem?_append_left hi]⟩
  unfold Lib.itoa
  rw [if_neg (by omega)]
  rfl

theorem repeat_any (c : Nat) (hc : c ≤ 10) (w : World) :
    Calls Tryd.prog 8 #[.string ⟨#[48]⟩, .int .i64 (c : Int)] w fun e w' => e = .returned (bytesV (List.replicate c 48)) ∧ Below w.heap.size w w' := by
  have := Tryd.strings_Repeat ⟨#[48]⟩ c w (by omega) (by show 1 * c ≤ _; omega)
  rw [show (⟨#[48]⟩ : ByteArray).data.toList = [48] from rfl, rep_zero] at this
  exact this

set_option maxHeartbeats 1000000 in
theorem seq_any (s : ByteArray) (n : Int) (h0 : -2147483648 ≤ n) (h1 : n ≤ 2147483647) (hl : s.size ≤ 4000000000) (w : World) (ht : Tab w) :
    Calls Tryd.prog 5 #[.string s, .int .i32 n] w fun e w' => e = .returned (checkedV (s.data.toList ++ seqD n)) ∧ Below w.heap.size w w' := by
  obtain ⟨u, hu⟩ : ∃ u : Nat, u = n.natAbs := ⟨_, rfl⟩
  have hu2 : u ≤ 2147483648 := by omega
  obtain ⟨dl, hdl⟩ : ∃ dl, dl = (Lib.decDigits u).length := ⟨_, rfl⟩
  have hd := (dec_pad 9 u (by omega)).1
  have hdpos : 1 ≤ dl := by
    rw [hdl, Lib.decDigits]
    split
    · simp
    · simp
  have hdl10 : dl ≤ 10 := by rw [hdl]; exact hd
  obtain ⟨db, hdb⟩ : ∃ db : ByteArray, db = ⟨(Lib.decDigits u).toArray⟩ := ⟨_, rfl⟩
  have hdbs : db.size = dl := by rw [hdb, size_list]; exact hdl.symm
  have HF : Hid (∀ w, Tab w → Calls Tryd.prog 7 #[.int .i64 (u : Int), .int .i64 10] w fun e w' => e = .returned (.string db) ∧ Below w.heap.size w w') := fun w ht => by rw [hdb]; exact format_any u hu2 w ht
  have HT : Hid (Tab w) := ht
  clear ht
  by_cases hn : n < 0
  · obtain ⟨zb, hzb⟩ : ∃ zb : ByteArray, zb = ⟨(List.replicate (9 - dl) 48).toArray⟩ := ⟨_, rfl⟩
    have hzz : zb.size = 9 - dl := by rw [hzb, size_list]; simp
    have HR : Hid (∀ w, Calls Tryd.prog 8 #[.string ⟨#[48]⟩, .int .i64 ((9 - dl : Nat) : Int)] w fun e w' => e = .returned (.string zb) ∧ Below w.heap.size w w') := fun w => by rw [hzb]; exact repeat_any (9 - dl) (by omega) w
    have hall : (s ++ ⟨#[45]⟩ ++ zb ++ db).data.toList = s.data.toList ++ seqD n := by
      rw [app_list, app_list, app_list, hzb, hdb]
      unfold seqD
      rw [if_pos hn, ← hu, ← hdl]
      simp
    have hsz : (s ++ ⟨#[45]⟩ ++ zb ++ db).size ≤ 4294967296 := by
      rw [app_size, app_size, app_size, hzz, hdbs]
      show s.size + 1 + (9 - dl) + dl ≤ _
      omega
    have HC : Hid (∀ w, Calls Tryd.prog 9 #[.string (s ++ ⟨#[45]⟩ ++ zb ++ db)] w fun e w' => e = .returned (checkedV (s.data.toList ++ seqD n)) ∧ Below w.heap.size w w') := fun w => by rw [← hall]; exact checked_any _ _ hsz
    have hvs : ∃ a b, checkedV (s.data.toList ++ seqD n) = .tuple #[a, b] := by
      unfold checkedV; split
      · exact ⟨_, _, rfl⟩
      · exact ⟨_, _, rfl⟩
    obtain ⟨va, vb, hab⟩ := hvs
    rw [hab] at HC ⊢
    have hneg : -n = (u : Int) := by omega
    have HU : Hid (-n = (u : Int)) := hneg
    clear hab hall hsz hdb hzb hneg hdl hd
    go_enter Tryd.func5, Tryd.ntmps5
    go_wp2_with fail
    rw [HU.out]
    refine (HF.out w HT.out).mono ?_
    rintro e w1 ⟨rfl, k1⟩
    go_wp2_with fail
    have hmx : max (0 : Int) (9 - (dl : Int)) = ((9 - dl : Nat) : Int) := by omega
    rw [hmx]
    refine (HR.out _).mono ?_
    rintro e w2 ⟨rfl, k2⟩
    have j2 := k1.trans (k2.mono k1.size)
    have HJ : Hid (Below w.heap.size w w2) := j2
    clear hmx k1 k2 j2
    go_wp2_with fail
    refine (HC.out _).mono ?_
    rintro e w3 ⟨rfl, k3⟩
    go_wp2
    go_ret2
    exact ⟨rfl, HJ.out.trans (k3.mono HJ.out.size)⟩
  · obtain ⟨zb, hzb⟩ : ∃ zb : ByteArray, zb = ⟨(List.replicate (10 - dl) 48).toArray⟩ := ⟨_, rfl⟩
    have hzz : zb.size = 10 - dl := by rw [hzb, size_list]; simp
    have HR : Hid (∀ w, Calls Tryd.prog 8 #[.string ⟨#[48]⟩, .int .i64 ((10 - dl : Nat) : Int)] w fun e w' => e = .returned (.string zb) ∧ Below w.heap.size w w') := fun w => by rw [hzb]; exact repeat_any (10 - dl) (by omega) w
    have hall : (s ++ ⟨#[]⟩ ++ zb ++ db).data.toList = s.data.toList ++ seqD n := by
      rw [app_list, app_list, app_list, hzb, hdb]
      unfold seqD
      rw [if_neg hn, ← hu, ← hdl]
      simp
    have hsz : (s ++ ⟨#[]⟩ ++ zb ++ db).size ≤ 4294967296 := by
      rw [app_size, app_size, app_size, hzz, hdbs]
      show s.size + 0 + (10 - dl) + dl ≤ _
      omega
    have HC : Hid (∀ w, Calls Tryd.prog 9 #[.string (s ++ ⟨#[]⟩ ++ zb ++ db)] w fun e w' => e = .returned (checkedV (s.data.toList ++ seqD n)) ∧ Below w.heap.size w w') := fun w => by rw [← hall]; exact checked_any _ _ hsz
    have hvs : ∃ a b, checkedV (s.data.toList ++ seqD n) = .tuple #[a, b] := by
      unfold checkedV; split
      · exact ⟨_, _, rfl⟩
      · exact ⟨_, _, rfl⟩
    obtain ⟨va, vb, hab⟩ := hvs
    rw [hab] at HC ⊢
    have hneg : n = (u : Int) := by omega
    have HU : Hid (n = (u : Int)) := hneg
    clear hab hall hsz hdb hzb hneg hdl hd
    go_enter Tryd.func5, Tryd.ntmps5
    go_wp2_with fail
    rw [HU.out]
    refine (HF.out w HT.out).mono ?_
    rintro e w1 ⟨rfl, k1⟩
    go_wp2_with fail
    have hmx : max (0 : Int) (10 - (dl : Int)) = ((10 - dl : Nat) : Int) := by omega
    rw [hmx]
    refine (HR.out _).mono ?_
    rintro e w2 ⟨rfl, k2⟩
    have j2 := k1.trans (k2.mono k1.size)
    have HJ : Hid (Below w.heap.size w w2) := j2
    clear hmx k1 k2 j2
    go_wp2_with fail
    refine (HC.out _).mono ?_
    rintro e w3 ⟨rfl, k3⟩
    go_wp2
    go_ret2
    exact ⟨rfl, HJ.out.trans (k3.mono HJ.out.size)⟩

end Go.Proofs.YtgaemldkpfbomaaDoor
