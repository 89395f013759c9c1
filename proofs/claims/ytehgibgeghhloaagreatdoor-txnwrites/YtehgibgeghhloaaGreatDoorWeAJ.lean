/- What the document's own bytes of whole numbers are: digits and Int32 of lagoonref01. -/
import Derived.Test.YtehgibgeghhloaaGreatDoorPieceJ
import Derived.Test.YtehgibgeghhloaaGreatDoorCopyLJ
import Derived.Test.YtehgibgeghhloaaGreatDoorRefBits2J
import Derived.Test.YtehgibgeghhloaaGreatDoorZxJ
import Derived.Test.YtehgibgeghhloaaGreatDoorWrEJ
import Derived.Maps.AppendAt
namespace Go.Proofs.YtehgibgeghhloaaGreatDoor
open Go.RowKit
set_option maxRecDepth 8000

/-- The lowest m digits to the base 256, the highest first. -/
def digs : Nat → Int → List Int
  | 0, _ => []
  | m + 1, n => digs m (n / 256) ++ [n % 256]

theorem digs_len (m : Nat) (n : Int) : (digs m n).length = m := by
  induction m generalizing n with
  | zero => rfl
  | succ m ih => simp [digs, ih]

theorem digs_byts (m : Nat) (n : Int) : Byts (digs m n) := by
  induction m generalizing n with
  | zero => intro x hx; simp [digs] at hx
  | succ m ih =>
    refine (ih _).append ?_
    intro x hx
    simp at hx
    omega

theorem digs4 (n : Int) (h0 : 0 ≤ n) (h1 : n < 4294967296) : digs 4 n = be4 n := by
  simp only [digs, be4, List.nil_append, List.cons_append, List.cons.injEq, and_true]
  omega

theorem digs8 (n : Int) (h0 : 0 ≤ n) (h1 : n ≤ 18446744073709551615) : digs 8 n = be8 n := by
  simp only [digs, be8, be4, List.nil_append, List.cons_append, List.cons.injEq, and_true]
  omega

theorem drop_set {zs : List Int} {k : Nat} (x : Int) (hk : k < zs.length) : (zs.set k x).drop k = x :: zs.drop (k + 1) := by
  rw [List.drop_eq_getElem_cons (by simpa using hk), List.drop_set_of_lt (by omega)]
  simp

set_option maxHeartbeats 400000 in
theorem digits_any (n : Int) (m : Nat) (w : World) (hm : m ≤ 8) (h0 : 0 ≤ n) (h1 : n ≤ 18446744073709551615) :
    Calls Tryz.prog 88 #[.int .u64 n, .int .i64 m] w fun e w' => ∃ v', e = .returned v' ∧ Owns w' w.heap.size v' (digs m n) ∧ Below w.heap.size w w' := by
  obtain ⟨i0, hi, hz0, hz1, hz2⟩ := info_parts Tryz.infoByte
  go_enter Tryz.func88, Tryz.ntmps88
  go_wp2_with (at_make; refine wpList_make_full _ rfl _ _ 28 rfl w.heap.size 5 i0 (.int .u8 0) 1 Tryz.underlying28 hi hz0 hz1 .i64 .i64 _ _ m rfl rfl (by omega) (by omega) (by rw [hz2]; omega) (by unfold maxLen; omega) (Nat.le_refl _) ?_)
  intro w0 hown0 hgrow0
  have hown1 := made_owns hown0
  have hbel0 : Below w.heap.size w w0 := (Below.refl _ _).grown hgrow0 (Nat.le_refl _) (fun k hk => by simp at hk)
  have HO1 : Hid (Owns w0 w.heap.size (.slice (some ⟨w.heap.size, 0, none⟩) (List.replicate m (0 : Int)).length m) (List.replicate m 0)) := hown1
  clear hown0 hgrow0 hown1
  go_wp2
  go_loopw [0, 6] (fun q i wr => ∃ (k : Nat) (c : Int) (zs : List Int), k ≤ m ∧ 0 ≤ c ∧ c ≤ 18446744073709551615 ∧ q = .int .u64 c ∧ i = .int .i64 (k - 1) ∧ zs.length = m ∧ Owns wr w.heap.size (.slice (some ⟨w.heap.size, 0, none⟩) zs.length m) zs ∧ digs m n = digs k c ++ zs.drop k ∧ Below w.heap.size w wr) (fun _ i _ => (intOf i + 1).toNat)
  case atStart => exact ⟨m, n, _, Nat.le_refl _, h0, h1, rfl, by go_num, by simp, HO1.out, by simp, hbel0⟩
  case round =>
    clear HO1 hbel0 w0
    obtain ⟨k, c, zs, hk, hc0, hc1, rfl, rfl, hzl, hown, hd, hbel⟩ := hrel
    have HZ : Hid (zs.length = m ∧ Owns wr w.heap.size (.slice (some ⟨w.heap.size, 0, none⟩) zs.length m) zs ∧ digs m n = digs k c ++ zs.drop k ∧ Below w.heap.size w wr) := ⟨hzl, hown, hd, hbel⟩
    clear hd hzl hbel
    cases k with
    | zero =>
      clear hown
      go_wp2
      go_ret
      obtain ⟨z1, z2, z3, z4⟩ := HZ.out
      have e : digs m n = zs := by rw [z3]; simp [digs]
      rw [z1] at z2
      exact ⟨_, rfl, by rw [e]; exact z2, z4⟩
    | succ k =>
      have e : ((k + 1 : Nat) : Int) - 1 = k := by omega
      rw [e]
      clear e
      have hcz := owns_cell hown k (by rw [HZ.out.1]; omega)
      have hfz := hown.frozenAt k
      clear hown
      go_wp2
      obtain ⟨z1, z2, z3, z4⟩ := HZ.out
      have R := owns_set z2 k (c % 256)
      have R2 : digs m n = digs k (c / 256) ++ (zs.set k (c % 256)).drop k := by
        rw [drop_set _ (by omega), z3]; simp [digs]
      have R3 : Below w.heap.size w (wr.setCell ⟨w.heap.size, k, none⟩ (.int .u8 (c % 256))) := z4.setCell (Nat.le_refl _) _
      go_roundw
      case rel => exact ⟨k, c / 256, zs.set k (c % 256), by omega, by omega, by omega, rfl, by go_num, by simpa using z1, R.1, R2, R3⟩
      case measure => simp [intOf]

set_option maxHeartbeats 400000 in
theorem refInt32_any (n : Int) (w : World) (h0 : -2147483648 ≤ n) (h1 : n ≤ 2147483647) :
    Calls Tryz.prog 92 #[.int .i32 n] w fun e w' => ∃ v', e = .returned v' ∧ Owns w' w.heap.size v' (be4 (up32 n)) ∧ Below w.heap.size w w' := by
  by_cases hn : n < 0
  · have hd : Hid (digs 4 (n + 4294967296) = be4 (up32 n)) := by
      have : up32 n = n + 4294967296 := by unfold up32; omega
      show _ = _
      rw [this]; exact digs4 _ (by omega) (by omega)
    go_enter Tryz.func92, Tryz.ntmps92
    go_wp2_with fail
    refine (digits_any (n + 4294967296) 4 _ (by omega) (by omega) (by omega)).mono ?_
    rintro e w1 ⟨v, rfl, hp⟩
    rw [hd.out] at hp
    have HP : Hid (Owns w1 w.heap.size v (be4 (up32 n)) ∧ Below w.heap.size w w1) := hp
    clear hp
    go_wp2
    go_ret
    exact ⟨_, rfl, HP.out⟩
  · have hd : Hid (digs 4 n = be4 (up32 n)) := by
      have : up32 n = n := by unfold up32; omega
      show _ = _
      rw [this]; exact digs4 _ (by omega) (by omega)
    go_enter Tryz.func92, Tryz.ntmps92
    go_wp2_with fail
    refine (digits_any n 4 _ (by omega) (by omega) (by omega)).mono ?_
    rintro e w1 ⟨v, rfl, hp⟩
    rw [hd.out] at hp
    have HP : Hid (Owns w1 w.heap.size v (be4 (up32 n)) ∧ Below w.heap.size w w1) := hp
    clear hp
    go_wp2
    go_ret
    exact ⟨_, rfl, HP.out⟩

end Go.Proofs.YtehgibgeghhloaaGreatDoor

/- What the document's own bytes of an int64 are: Int64 of lagoonref01. -/
namespace Go.Proofs.YtehgibgeghhloaaGreatDoor
open Go.RowKit
set_option maxRecDepth 8000

/-- The loop of lagoonref01.Int64 below 0 takes each digit from 255. -/
theorem flip_digs (m : Nat) (n : Int) : (digs m n).map (fun x => 255 - x) = digs m (-1 - n) := by
  induction m generalizing n with
  | zero => rfl
  | succ m ih =>
    simp only [digs, List.map_append, ih, List.map_cons, List.map_nil]
    rw [show (-1 - n) / 256 = -1 - n / 256 by omega, show (-1 - n) % 256 = 255 - n % 256 by omega]

theorem digs_up64 (n : Int) (h0 : -9223372036854775808 ≤ n) (h1 : n < 0) : digs 8 n = be8 (up64 n) := by
  rw [← digs8 (up64 n) (up64_bd n).1 (up64_bd n).2]
  have : up64 n = n + 18446744073709551616 := by unfold up64; omega
  rw [this]
  simp only [digs, List.nil_append, List.cons_append, List.cons.injEq, and_true]
  omega

theorem flip_nth (zs : List Int) (k : Nat) (hk : k < zs.length) (ds : List Int) (h : ∀ j, j < zs.length → zs.getD j 0 = if j < k then 255 - ds.getD j 0 else ds.getD j 0) :
    ∀ j, j < (zs.set k (255 - ds.getD k 0)).length → (zs.set k (255 - ds.getD k 0)).getD j 0 = if j < k + 1 then 255 - ds.getD j 0 else ds.getD j 0 := by
  intro j hj
  simp at hj
  rw [nth_set zs k j _ hk]
  by_cases e : j = k
  · rw [if_pos e, if_pos (by omega), e]
  · rw [if_neg e, h j hj]
    by_cases e2 : j < k
    · rw [if_pos e2, if_pos (by omega)]
    · rw [if_neg e2, if_neg (by omega)]

set_option maxHeartbeats 1000000 in
theorem refInt64_any (n : Int) (w : World) (h0 : -9223372036854775808 ≤ n) (h1 : n ≤ 9223372036854775807) :
    Calls Tryz.prog 30 #[.int .i64 n] w fun e w' => ∃ v', e = .returned v' ∧ Owns w' w.heap.size v' (be8 (up64 n)) ∧ Below w.heap.size w w' := by
  by_cases hn : 0 ≤ n
  · have hd : Hid (digs 8 n = be8 (up64 n)) := by
      have : up64 n = n := by unfold up64; omega
      show _ = _
      rw [this]; exact digs8 _ (by omega) (by omega)
    go_enter Tryz.func30, Tryz.ntmps30
    go_wp2_with fail
    refine (digits_any n 8 _ (by omega) (by omega) (by omega)).mono ?_
    rintro e w1 ⟨v, rfl, hp⟩
    rw [hd.out] at hp
    have HP : Hid (Owns w1 w.heap.size v (be8 (up64 n)) ∧ Below w.heap.size w w1) := hp
    clear hp
    go_wp2
    go_ret
    exact ⟨_, rfl, HP.out⟩
  · have hd : Hid (digs 8 n = be8 (up64 n)) := digs_up64 n h0 (by omega)
    have HF : Hid ((digs 8 (-1 - n)).map (fun x => 255 - x) = digs 8 n) := by
      have := flip_digs 8 (-1 - n)
      rw [show -1 - (-1 - n) = n by omega] at this
      exact this
    have HDB : Hid (Byts (digs 8 (-1 - n))) := digs_byts _ _
    have HDL : Hid ((digs 8 (-1 - n)).length = 8) := digs_len _ _
    go_enter Tryz.func30, Tryz.ntmps30
    go_wp2_with fail
    refine (digits_any (-1 - n) 8 _ (by omega) (by omega) (by omega)).mono ?_
    rintro e w1 ⟨v, rfl, ho, hbel⟩
    generalize digs 8 (-1 - n) = ds at *
    obtain ⟨g, c, hv, hg⟩ := owns_some ho (by rw [HDL.out]; omega)
    rw [HDL.out] at hv
    subst hv
    have HP : Hid (Owns w1 w.heap.size (.slice (some ⟨g, 0, none⟩) 8 c) ds ∧ Below w.heap.size w w1) := ⟨ho, hbel⟩
    clear ho hbel
    go_wp2
    go_loopw [4] (fun i wr => ∃ (k : Nat) (zs : List Int), k ≤ 8 ∧ i = .int .i64 k ∧ zs.length = 8 ∧ Owns wr w.heap.size (.slice (some ⟨g, 0, none⟩) 8 c) zs ∧ (∀ j, j < zs.length → zs.getD j 0 = if j < k then 255 - ds.getD j 0 else ds.getD j 0) ∧ Below w.heap.size w wr) (fun i _ => 8 - (intOf i).toNat)
    case atStart => exact ⟨0, ds, by omega, rfl, HDL.out, HP.out.1, fun j hj => by simp, HP.out.2⟩
    case round =>
      clear HP
      obtain ⟨k, zs, hk, rfl, hzl, hown, hpt, hbel⟩ := hrel
      have HZ : Hid (zs.length = 8 ∧ Owns wr w.heap.size (.slice (some ⟨g, 0, none⟩) zs.length c) zs ∧ (∀ j, j < zs.length → zs.getD j 0 = if j < k then 255 - ds.getD j 0 else ds.getD j 0) ∧ Below w.heap.size w wr) := ⟨hzl, by rw [hzl]; exact hown, hpt, hbel⟩
      clear hown hpt hbel hzl
      by_cases hlt : k < 8
      · have hcz := owns_cell HZ.out.2.1 k (by rw [HZ.out.1]; omega)
        rw [HZ.out.2.2.1 k (by rw [HZ.out.1]; omega), if_neg (by omega)] at hcz
        have hfz := HZ.out.2.1.frozenAt k
        have hx := HDB.out.nth k
        have HN := flip_nth zs k (by rw [HZ.out.1]; omega) ds HZ.out.2.2.1
        have HN' : Hid _ := HN
        have HS : Hid (Owns (wr.setCell ⟨g, k, none⟩ (.int .u8 (255 - ds.getD k 0))) w.heap.size (.slice (some ⟨g, 0, none⟩) (zs.set k (255 - ds.getD k 0)).length c) (zs.set k (255 - ds.getD k 0))) := (owns_set HZ.out.2.1 k (255 - ds.getD k 0)).1
        clear HN
        generalize ds.getD k 0 = x at *
        go_wp2
        have z2 := HS.out
        rw [List.length_set, HZ.out.1] at z2
        have R3 : Below w.heap.size w (wr.setCell ⟨g, k, none⟩ (.int .u8 (255 - x))) := HZ.out.2.2.2.setCell hg _
        go_roundw
        case rel => exact ⟨k + 1, zs.set k (255 - x), by omega, by go_num, by rw [List.length_set]; exact HZ.out.1, z2, HN'.out, R3⟩
        case measure => simp [intOf]; omega
      · have he : zs = be8 (up64 n) := by
          rw [← hd.out, ← HF.out]
          refine list_of_nths (by rw [List.length_map, HZ.out.1, HDL.out]) (fun j hj => ?_)
          rw [HZ.out.2.2.1 j hj, if_pos (by have := HZ.out.1; omega)]
          have hj' : j < ds.length := by have := HZ.out.1; have := HDL.out; omega
          simp [List.getD_eq_getElem?_getD, hj']
        have z2 := HZ.out.2.1
        rw [HZ.out.1, he] at z2
        have HR : Hid (Owns wr w.heap.size (.slice (some ⟨g, 0, none⟩) 8 c) (be8 (up64 n)) ∧ Below w.heap.size w wr) := ⟨z2, HZ.out.2.2.2⟩
        clear z2 he HZ
        go_wp2
        go_ret
        exact ⟨_, rfl, HR.out⟩

end Go.Proofs.YtehgibgeghhloaaGreatDoor

/- What the rest of the document's own bytes are: Bool, Int8, Uint32, Float, Buffer and Text of lagoonref01; and what spoil of the statements does. -/
namespace Go.Proofs.YtehgibgeghhloaaGreatDoor
open Go.RowKit
set_option maxRecDepth 8000

theorem owns_new (w : World) (cs : Array Value) (ys : List Int) (hl : ys.length ≤ 4096) (h : cs.toList = ys.map (Value.int .u8)) : Owns (w.alloc (.cells cs 5)) w.heap.size (.slice (some ⟨w.heap.size, 0, none⟩) ys.length ys.length) ys := by
  have hs : cs.size = ys.length * 1 := by
    have := congrArg List.length h
    simp at this
    omega
  have := World.ownsRow_lit (base := w.heap.size) (e := 5) (size := 1) w cs ys.length (Nat.le_refl _) (by unfold maxLen; omega) hs
  rw [h] at this
  exact this

theorem refBool_any (b : Bool) (w : World) : Calls Tryz.prog 94 #[.bool b] w fun e w' => ∃ v', e = .returned v' ∧ Owns w' w.heap.size v' [b2i b] ∧ Below w.heap.size w w' := by
  cases b
  · go_enter Tryz.func94, Tryz.ntmps94
    go_wp2
    go_ret
    exact ⟨_, rfl, owns_new w _ [0] (by simp) rfl, (Below.refl _ _).alloc (Nat.le_refl _) _⟩
  · go_enter Tryz.func94, Tryz.ntmps94
    go_wp2
    go_ret
    exact ⟨_, rfl, owns_new w _ [1] (by simp) rfl, (Below.refl _ _).alloc (Nat.le_refl _) _⟩

theorem refInt8_any (n : Int) (w : World) (h0 : -128 ≤ n) (h1 : n ≤ 127) : Calls Tryz.prog 29 #[.int .i8 n] w fun e w' => ∃ v', e = .returned v' ∧ Owns w' w.heap.size v' [n % 256] ∧ Below w.heap.size w w' := by
  by_cases hn : n < 0
  · go_enter Tryz.func29, Tryz.ntmps29
    go_wp2
    go_ret
    exact ⟨_, rfl, owns_new w _ [n % 256] (by simp) (by simp; omega), (Below.refl _ _).alloc (Nat.le_refl _) _⟩
  · go_enter Tryz.func29, Tryz.ntmps29
    go_wp2
    go_ret
    exact ⟨_, rfl, owns_new w _ [n % 256] (by simp) (by simp; omega), (Below.refl _ _).alloc (Nat.le_refl _) _⟩

set_option maxHeartbeats 400000 in
theorem refUint32_any (n : Int) (w : World) (h0 : 0 ≤ n) (h1 : n < 4294967296) : Calls Tryz.prog 27 #[.int .u32 n] w fun e w' => ∃ v', e = .returned v' ∧ Owns w' w.heap.size v' (be4 n) ∧ Below w.heap.size w w' := by
  have hd : Hid (digs 4 n = be4 n) := digs4 n h0 h1
  go_enter Tryz.func27, Tryz.ntmps27
  go_wp2_with fail
  refine (digits_any n 4 _ (by omega) (by omega) (by omega)).mono ?_
  rintro e w1 ⟨v, rfl, hp⟩
  rw [hd.out] at hp
  have HP : Hid (Owns w1 w.heap.size v (be4 n) ∧ Below w.heap.size w w1) := hp
  clear hp
  go_wp2
  go_ret
  exact ⟨_, rfl, HP.out⟩

set_option maxHeartbeats 400000 in
theorem refBuffer_any (u : Value) (ys : List Int) (w : World) (h' : Sees w u ys) (hl : ys.length ≤ 2147483647) :
    Calls Tryz.prog 91 #[u] w fun e w' => ∃ v', e = .returned v' ∧ Owns w' w.heap.size v' (be4 ys.length ++ ys) ∧ Below w.heap.size w w' := by
  obtain ⟨ao, cap, rfl, hlc, hcm, _, h3⟩ := h'
  unfold maxLen at hcm
  obtain ⟨i0, hi, hz0, hz1, hz2⟩ := info_parts Tryz.infoByte
  have H3 : Hid _ := h3
  clear h3
  go_enter Tryz.func91, Tryz.ntmps91
  go_wp2_with fail
  refine (refInt32_any ys.length _ (by omega) (by omega)).mono ?_
  rintro e w1 ⟨v1, rfl, ho1, hb1⟩
  rw [show up32 (ys.length : Int) = ys.length by unfold up32; omega] at ho1
  have HP : Hid (Owns w1 w.heap.size v1 (be4 ys.length) ∧ Below w.heap.size w w1) := ⟨ho1, hb1⟩
  clear ho1 hb1
  go_wp2
  go_loopw [3, 4] (fun v i wr => ∃ k : Nat, k ≤ ys.length ∧ i = .int .i64 k ∧ Owns wr w.heap.size v (be4 ys.length ++ ys.take k) ∧ Below w.heap.size w wr) (fun _ i _ => ys.length - (intOf i).toNat)
  case atStart => exact ⟨0, Nat.zero_le _, rfl, by simpa using HP.out.1, HP.out.2⟩
  case round =>
    clear HP
    obtain ⟨k, hk, rfl, hown, hbel⟩ := hrel
    by_cases hlt : k < ys.length
    · rcases H3.out with h3 | ⟨b, off, rfl, h3⟩
      · subst h3; simp at hlt
      · have hc := cell_later (h3 k hlt) hbel (Nat.le_refl _)
        have HN : Hid _ := take_next ys k hlt
        have HL : Hid ((be4 (ys.length : Int) ++ ys.take k).length ≤ 4 + k) := by show _ ≤ _; simp [be4]; omega
        clear h3 H3
        generalize ys.getD k 0 = x at *
        have HN2 : Hid (be4 (ys.length : Int) ++ ys.take (k + 1) = (be4 (ys.length : Int) ++ ys.take k) ++ [x]) := by show _ = _; rw [HN.out]; simp
        clear HN
        generalize be4 (ys.length : Int) ++ ys.take k = zs at *
        have hsz := hbel.size
        go_wp2_with (at_builtin; refine wpList_append_own _ rfl _ _ 28 rfl w.heap.size 5 i0 (.int .u8 0) 1 1 Tryz.underlying28 hi hz0 hz1 hz2 rfl (by decide) _ _ _ rfl (hown.alloc _) ⟨wr.heap.size, 0, none⟩ 1 1 [.int .u8 x] rfl rfl ?c1 ?c2 ?c3 ?c4 ?c5 ?_)
        case c1 =>
          intro j u hj
          match j, hj with
          | 0, hj => simp at hj; subst hj; simp [Addr.add]
        case c2 => intro u hu; simp at hu; subst hu; rfl
        case c3 => have := HL.out; unfold maxLen; omega
        case c4 => have := HL.out; omega
        case c5 => simp; omega
        intro v' w1 hown' hgrow _
        have R := app_rel hsz hown hbel hown' hgrow
        clear hown' hgrow hown hc
        go_wp2
        go_roundw
        case rel => exact ⟨k + 1, by omega, by go_num, by rw [HN2.out]; exact R.1, R.2.1⟩
        case measure => simp [intOf]; omega
    · obtain rfl : k = ys.length := by omega
      rw [List.take_length] at hown
      go_wp2
      go_ret
      exact ⟨_, rfl, hown, hbel⟩

set_option maxHeartbeats 400000 in
theorem refText_any (s : ByteArray) (w : World) (hl : s.size ≤ 2147483647) :
    Calls Tryz.prog 90 #[.string s] w fun e w' => ∃ v', e = .returned v' ∧ Owns w' w.heap.size v' (be4 (txt s).length ++ txt s) ∧ Below w.heap.size w w' := by
  have hcv := run_bytes_of_string (P := Tryz.prog) w 9 28 5 s Tryz.underlying9 Tryz.underlying28 Tryz.underlying5
  go_enter Tryz.func90, Tryz.ntmps90
  go_wp2_with fail
  refine (refBuffer_any _ (txt s) _ (by exact sees_text w s (by unfold maxLen; omega) _) (by rw [txt_len]; omega)).mono ?_
  rintro e w1 ⟨v', rfl, ho, hb⟩
  have HP : Hid (Owns w1 w.heap.size v' (be4 (txt s).length ++ txt s) ∧ Below w.heap.size w w1) :=
    ⟨owns_mono ho (by simp), ((Below.refl w.heap.size w).alloc (Nat.le_refl _) _).drew.trans (hb.mono (by simp))⟩
  clear ho hb
  go_wp2
  go_ret
  exact ⟨_, rfl, HP.out⟩

end Go.Proofs.YtehgibgeghhloaaGreatDoor
/- behind and putId of the document's layer 4: bytes behind others, in a row of one's own. -/
namespace Go.Proofs.YtehgibgeghhloaaGreatDoor
open Go.RowKit
set_option maxRecDepth 8000

/-- The row v grew to v', of the bytes zs: no other block of w changed. -/
structure Beh (B : Nat) (w : World) (v : Value) (zs : List Int) (w' : World) (v' : Value) : Prop where
  own : Owns w' B v' zs
  kept : Kept w w' (fun k => v.ownBlock = some k)
  blk : ∀ j, v'.ownBlock = some j → v.ownBlock = some j ∨ w.heap.size ≤ j
  base : B ≤ w'.heap.size

theorem Beh.trans {B : Nat} {w w1 w2 : World} {v v1 v2 : Value} {xs ys : List Int} (h : Beh B w v xs w1 v1) (g : Beh B w1 v1 ys w2 v2) : Beh B w v ys w2 v2 := by
  have hs := h.kept.size
  refine ⟨g.own, ⟨?_, ?_, ?_, ?_, fun k hk hn => ?_⟩, fun j e => ?_, g.base⟩
  · rw [g.kept.os, h.kept.os]
  · rw [g.kept.tape, h.kept.tape]
  · rw [g.kept.output, h.kept.output]
  · have := g.kept.size; omega
  · rw [g.kept.block k (by omega) (fun e => ?_), h.kept.block k hk hn]
    rcases h.blk k e with h' | h'
    · exact hn h'
    · omega
  · rcases g.blk j e with h' | h'
    · exact h.blk j h'
    · exact .inr (by omega)

theorem Beh.refl {B : Nat} {w : World} {v : Value} {xs : List Int} (h : Owns w B v xs) (hB : B ≤ w.heap.size) : Beh B w v xs w v := ⟨h, Kept.refl _ _, fun _ e => .inl e, hB⟩

/-- Blocks came behind. -/
theorem Beh.later {B : Nat} {w w1 w2 : World} {v v1 : Value} {xs : List Int} (h : Beh B w v xs w1 v1) (hb : Below w1.heap.size w1 w2) : Beh B w v xs w2 v1 :=
  ⟨Owns.kept h.own (Below.kept hb) (fun k e h' => by have := (h.own.lt k e).2; omega), h.kept.trans ((Below.kept hb).mono (S' := fun _ => False) (fun k hk h' => by omega)) (fun _ _ h' => h'.elim), h.blk, Nat.le_trans h.base hb.size⟩

theorem Beh.below {B : Nat} {w w' : World} {v v' : Value} {xs zs : List Int} (h : Beh B w v zs w' v') (hv : Owns w B v xs) (hB : B ≤ w.heap.size) : Below B w w' :=
  ⟨h.kept.os, h.kept.tape, h.kept.output, h.kept.size, fun k hk => h.kept.block k (by omega) (fun e => by have := (hv.lt k e).1; omega)⟩

theorem be_step {B : Nat} {w wr w1 : World} {v0 v v' : Value} {xs : List Int} {x : Int} {o : Obj} (h : Beh B w v0 xs wr v)
    (hown' : w1.ownsRow B 5 1 v' (xs.length + 1) (xs.map (Value.int .u8) ++ [.int .u8 x])) (hgrow : (wr.alloc o).grownBy w1 v.ownBlock) (hb : v'.ownBlock = v.ownBlock ∨ v'.ownBlock = some (wr.heap.size + 1)) :
    Beh B w v0 (xs ++ [x]) w1 v' := by
  have hsz := h.kept.size
  have ha : Kept wr (wr.alloc o) (fun _ => False) := (Kept.refl wr _).alloc _
  have hsa : (wr.alloc o).heap.size = wr.heap.size + 1 := by simp
  have hg := hgrow.size
  refine h.trans ⟨by simpa [Owns] using hown', ⟨?_, ?_, ?_, by omega, fun k hk' hS => ?_⟩, fun j e => ?_, by have := h.base; omega⟩
  · rw [hgrow.os, ha.os]
  · rw [hgrow.tape, ha.tape]
  · rw [hgrow.output, ha.output]
  · rw [hgrow.block k (by omega) (fun e => hS e.symm), ha.block k hk' (fun h => h)]
  · rcases hb with h | h
    · rw [h] at e; exact .inl e
    · rw [h] at e; simp at e; omega

set_option maxHeartbeats 1000000 in
theorem behind_any (B : Nat) (v u : Value) (xs ys : List Int) (w : World) (hv : Owns w B v xs) (hu : Sees w u ys) (hd : ∀ j, u.ownBlock = some j → v.ownBlock ≠ some j) (hB : B ≤ w.heap.size) (hl : xs.length + ys.length ≤ 1000000000) :
    Calls Tryz.prog 28 #[v, u] w fun e w' => ∃ v', e = .returned v' ∧ Beh B w v (xs ++ ys) w' v' := by
  obtain ⟨i0, hi, hz0, hz1, hz2⟩ := info_parts Tryz.infoByte
  obtain ⟨ao, cap, rfl, hlc, hcm, _, h3⟩ := hu
  unfold maxLen at hcm
  have H3 : Hid _ := h3
  have HV : Hid (Owns w B v xs) := hv
  have HD : Hid _ := hd
  clear h3 hv hd
  go_enter Tryz.func28, Tryz.ntmps28
  go_wp2
  go_loopw [0, 5] (fun v' i wr => ∃ k : Nat, k ≤ ys.length ∧ i = .int .i64 k ∧ Beh B w v (xs ++ ys.take k) wr v') (fun _ i _ => ys.length - (intOf i).toNat)
  case atStart => exact ⟨0, Nat.zero_le _, rfl, by simpa using Beh.refl HV.out hB⟩
  case round =>
    clear HV
    obtain ⟨k, hk, rfl, hbe⟩ := hrel
    by_cases hlt : k < ys.length
    · rcases H3.out with h3 | ⟨b, off, rfl, h3⟩
      · subst h3; simp at hlt
      · have hc := hbe.kept.cell (h3 k hlt) (fun e => HD.out b rfl e)
        have HN : Hid _ := take_next ys k hlt
        have HL : Hid ((xs ++ ys.take k).length ≤ xs.length + k) := by show _ ≤ _; simp; omega
        clear h3 H3
        generalize ys.getD k 0 = x at *
        have HN2 : Hid (xs ++ ys.take (k + 1) = (xs ++ ys.take k) ++ [x]) := by show _ = _; rw [HN.out]; simp
        clear HN
        generalize xs ++ ys.take k = zs at *
        have HK : Hid _ := hbe
        have hown := hbe.own
        have hsz := hbe.base
        clear hbe
        go_wp2_with (at_builtin; refine wpList_append_own_at _ rfl _ _ 28 rfl B 5 i0 (.int .u8 0) 1 1 Tryz.underlying28 hi hz0 hz1 hz2 rfl (by decide) _ _ _ rfl (hown.alloc _) ⟨wr.heap.size, 0, none⟩ 1 1 [.int .u8 x] rfl rfl (cell_one_new _ _ _) ?c2 ?c3 ?c4 ?c5 ?_)
        case c2 => intro u hu; simp at hu; subst hu; rfl
        case c3 => have := HL.out; unfold maxLen; omega
        case c4 => have := HL.out; omega
        case c5 => simp; omega
        intro v' w1 hown' hgrow _ hbk
        have R : Hid _ := be_step HK.out hown' hgrow (by simpa using hbk)
        clear hown' hgrow hown hc hbk HK
        go_wp2
        go_roundw
        case rel => exact ⟨k + 1, by omega, by go_num, by rw [HN2.out]; exact R.out⟩
        case measure => simp [intOf]; omega
    · obtain rfl : k = ys.length := by omega
      rw [List.take_length] at hbe
      have HE : Hid _ := hbe
      clear hbe
      go_wp2
      go_ret
      exact ⟨_, rfl, HE.out⟩

/-- Bytes that were just made, behind others. -/
theorem behind_new {B : Nat} {v0 v u : Value} {xs ys : List Int} {w0 w w1 : World} (hv : Beh B w0 v0 xs w v) (hb : Below w.heap.size w w1) (hu : Owns w1 w.heap.size u ys) (hl : xs.length + ys.length ≤ 1000000000) :
    Calls Tryz.prog 28 #[v, u] w1 fun e w' => ∃ v', e = .returned v' ∧ Beh B w0 v0 (xs ++ ys) w' v' ∧ Kept w1 w' (fun k => v.ownBlock = some k) :=
  (behind_any B v u xs ys w1 (hv.later hb).own (Sees.own hu) (fun j e e' => by have h1 := (hu.lt j e).1; have h2 := (hv.own.lt j e').2; omega) (hv.later hb).base hl).mono fun e w' ⟨v', h1, h2⟩ => ⟨v', h1, (hv.later hb).trans h2, h2.kept⟩

set_option maxHeartbeats 1000000 in
theorem refPutId_any (B : Nat) (v : Value) (xs : List Int) (x : IdD) (w : World) (hv : Owns w B v xs) (hB : B ≤ w.heap.size) (h0 : x.scheme.size ≤ 1000) (h1 : x.name.size ≤ 1000) (hl : xs.length ≤ 200000000) :
    Calls Tryz.prog 93 #[v, .agg #[.string x.scheme, .string x.name]] w fun e w' => ∃ v', e = .returned v' ∧ Beh B w v (xs ++ idB x) w' v' := by
  obtain ⟨V, eV⟩ : ∃ V, V = w.alloc (.cells #[.string x.scheme, .string x.name] 120) := ⟨_, rfl⟩
  have HV : Hid (Below w.heap.size w V) := by subst eV; exact one_alloc _ _
  have HC : Hid (V.cell? ⟨w.heap.size, 0, none⟩ = some (.string x.scheme) ∧ V.cell? ⟨w.heap.size, 1, none⟩ = some (.string x.name)) := by
    subst eV
    refine ⟨?_, ?_⟩ <;> (rw [cell_of_row _ _ _ _ _ _ (heap_alloc_new _ _)]; rfl)
  have HE : Hid _ := eV
  have HO : Hid (Beh B w v xs V v) := (Beh.refl hv hB).later HV.out
  have HN : Hid (v.ownBlock ≠ some w.heap.size) := fun e => by have := (hv.lt _ e).2; omega
  have HL : Hid ((txtB x.scheme).length ≤ 1004 ∧ (txtB x.name).length ≤ 1004) := ⟨by rw [txtB_len]; omega, by rw [txtB_len]; omega⟩
  clear eV hv
  go_enter Tryz.func93, Tryz.ntmps93
  go_wp2_with fail
  rw [← HE.out]
  clear HE
  refine (refText_any x.scheme _ (by omega)).mono ?_
  rintro e w1 ⟨u1, rfl, hu1, hb1⟩
  have HX1 := behind_new HO.out hb1 hu1 (by have h1 := HL.out.1; unfold txtB at h1; omega)
  have HC1 : Hid (w1.cell? ⟨w.heap.size, 1, none⟩ = some (.string x.name)) := cell_later HC.out.2 hb1 (Nat.le_refl _)
  clear hu1 hb1
  go_wp2_with fail
  refine HX1.mono ?_
  clear HX1
  rintro e w2 ⟨v2, rfl, hv2, hk2⟩
  have HO2 : Hid (Beh B w v (xs ++ txtB x.scheme) w2 v2) := hv2
  have c1 := hk2.cell HC1.out HN.out
  clear hv2 hk2 HC1
  go_wp2_with fail
  refine (refText_any x.name _ (by omega)).mono ?_
  rintro e w3 ⟨u3, rfl, hu3, hb3⟩
  have HX3 := behind_new HO2.out hb3 hu3 (by have h1 := HL.out; unfold txtB at h1; simp only [txtB, List.length_append] at h1 ⊢; omega)
  clear hu3 hb3 c1
  go_wp2_with fail
  refine HX3.mono ?_
  clear HX3
  rintro e w4 ⟨v4, rfl, hv4, _⟩
  rw [List.append_assoc] at hv4
  have HO4 : Hid (Beh B w v (xs ++ idB x) w4 v4) := hv4
  clear hv4
  go_wp2_with fail
  go_ret
  exact ⟨_, rfl, HO4.out⟩
end Go.Proofs.YtehgibgeghhloaaGreatDoor
