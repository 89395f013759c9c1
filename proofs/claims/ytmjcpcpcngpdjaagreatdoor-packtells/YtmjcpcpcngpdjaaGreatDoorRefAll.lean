/- What the rest of the document's own bytes are: Bool, Int8, Uint32, Float, Buffer and Text of lagoonref01; and what spoil of the statements does. -/
import Derived.Test.YtmjcpcpcngpdjaaGreatDoorRefBits2
import Derived.Test.YtmjcpcpcngpdjaaGreatDoorRefInt64
import Derived.Test.YtmjcpcpcngpdjaaGreatDoorWriterAll
namespace Go.Proofs.YtmjcpcpcngpdjaaGreatDoor
open Go.RowKit
set_option maxRecDepth 8000

theorem owns_new (w : World) (cs : Array Value) (ys : List Int) (hl : ys.length ≤ 4096) (h : cs.toList = ys.map (Value.int .u8)) : Owns (w.alloc (.cells cs 5)) w.heap.size (.slice (some ⟨w.heap.size, 0, none⟩) ys.length ys.length) ys := by
  have hs : cs.size = ys.length * 1 := by
    have := congrArg List.length h
    simp at this
    omega
  have := World.ownsRow_lit (base := w.heap.size) (e := 5) (size := 1) w cs ys.length (Nat.le_refl _) (by unfold maxLen; omega) hs
  rw [h] at this
  exact this

theorem refBool_any (b : Bool) (w : World) : Calls Tryz.prog 26 #[.bool b] w fun e w' => ∃ v', e = .returned v' ∧ Owns w' w.heap.size v' [b2i b] ∧ Below w.heap.size w w' := by
  cases b
  · go_enter Tryz.func26, Tryz.ntmps26
    go_wp2
    go_ret
    exact ⟨_, rfl, owns_new w _ [0] (by simp) rfl, (Below.refl _ _).alloc (Nat.le_refl _) _⟩
  · go_enter Tryz.func26, Tryz.ntmps26
    go_wp2
    go_ret
    exact ⟨_, rfl, owns_new w _ [1] (by simp) rfl, (Below.refl _ _).alloc (Nat.le_refl _) _⟩

theorem refInt8_any (n : Int) (w : World) (h0 : -128 ≤ n) (h1 : n ≤ 127) : Calls Tryz.prog 28 #[.int .i8 n] w fun e w' => ∃ v', e = .returned v' ∧ Owns w' w.heap.size v' [n % 256] ∧ Below w.heap.size w w' := by
  by_cases hn : n < 0
  · go_enter Tryz.func28, Tryz.ntmps28
    go_wp2
    go_ret
    exact ⟨_, rfl, owns_new w _ [n % 256] (by simp) (by simp; omega), (Below.refl _ _).alloc (Nat.le_refl _) _⟩
  · go_enter Tryz.func28, Tryz.ntmps28
    go_wp2
    go_ret
    exact ⟨_, rfl, owns_new w _ [n % 256] (by simp) (by simp; omega), (Below.refl _ _).alloc (Nat.le_refl _) _⟩

set_option maxHeartbeats 400000 in
theorem refUint32_any (n : Int) (w : World) (h0 : 0 ≤ n) (h1 : n < 4294967296) : Calls Tryz.prog 31 #[.int .u32 n] w fun e w' => ∃ v', e = .returned v' ∧ Owns w' w.heap.size v' (be4 n) ∧ Below w.heap.size w w' := by
  have hd : Hid (digs 4 n = be4 n) := digs4 n h0 h1
  go_enter Tryz.func31, Tryz.ntmps31
  go_wp2_with fail
  refine (digits_any n 4 _ (by omega) (by omega) (by omega)).mono ?_
  rintro e w1 ⟨v, rfl, hp⟩
  rw [hd.out] at hp
  have HP : Hid (Owns w1 w.heap.size v (be4 n) ∧ Below w.heap.size w w1) := hp
  clear hp
  go_wp2
  go_ret
  exact ⟨_, rfl, HP.out⟩

set_option maxHeartbeats 400000 in
theorem refFloat_any (x : Nat) (w : World) (hx : x < 18446744073709551616) : Calls Tryz.prog 35 #[.float .f64 x] w fun e w' => ∃ v', e = .returned v' ∧ Owns w' w.heap.size v' (be8 (bitsOf x)) ∧ Below w.heap.size w w' := by
  have hb : bitsOf x ≤ 18446744073709551615 := by have := bitsOf_lt x hx; omega
  have hd : Hid (digs 8 (bitsOf x) = be8 (bitsOf x)) := digs8 _ (by omega) (by omega)
  go_enter Tryz.func35, Tryz.ntmps35
  go_wp2_with fail
  refine (refBits_any _ x hx).mono ?_
  rintro e w1 ⟨rfl, rfl⟩
  go_wp2_with fail
  refine (digits_any (bitsOf x : Nat) 8 _ (by omega) (by omega) (by omega)).mono ?_
  rintro e w2 ⟨v, rfl, hp⟩
  rw [hd.out] at hp
  have HP : Hid (Owns w2 w1.heap.size v (be8 (bitsOf x)) ∧ Below w1.heap.size w1 w2) := hp
  clear hp
  go_wp2
  go_ret
  exact ⟨_, rfl, HP.out⟩

set_option maxHeartbeats 400000 in
theorem refBuffer_any (u : Value) (ys : List Int) (w : World) (h' : Sees w u ys) (hl : ys.length ≤ 2147483647) :
    Calls Tryz.prog 39 #[u] w fun e w' => ∃ v', e = .returned v' ∧ Owns w' w.heap.size v' (be4 ys.length ++ ys) ∧ Below w.heap.size w w' := by
  obtain ⟨ao, cap, rfl, hlc, hcm, _, h3⟩ := h'
  unfold maxLen at hcm
  obtain ⟨i0, hi, hz0, hz1, hz2⟩ := info_parts Tryz.infoByte
  have H3 : Hid _ := h3
  clear h3
  go_enter Tryz.func39, Tryz.ntmps39
  go_wp2_with fail
  refine (refInt32_any ys.length _ (by omega) (by omega)).mono ?_
  rintro e w1 ⟨v1, rfl, ho1, hb1⟩
  rw [show up32 (ys.length : Int) = ys.length by unfold up32; omega] at ho1
  have HP : Hid (Owns w1 w.heap.size v1 (be4 ys.length) ∧ Below w.heap.size w w1) := ⟨ho1, hb1⟩
  clear ho1 hb1
  go_wp2
  go_loopw [3, 4] (fun v i wr => ∃ k : Nat, k ≤ ys.length ∧ i = .int .i64 k ∧ Owns wr w.heap.size v (be4 ys.length ++ ys.take k) ∧ Below w.heap.size w wr) (fun _ i _ => ys.length - (intOf i).toNat)
  case atStart => exact ⟨0, Nat.zero_le _, rfl, by simpa using HP.out.1, HP.out.2⟩
  case round =>
    clear HP
    obtain ⟨k, hk, rfl, hown, hbel⟩ := hrel
    by_cases hlt : k < ys.length
    · rcases H3.out with h3 | ⟨b, off, rfl, h3⟩
      · subst h3; simp at hlt
      · have hc := cell_later (h3 k hlt) hbel (Nat.le_refl _)
        have HN : Hid _ := take_next ys k hlt
        have HL : Hid ((be4 (ys.length : Int) ++ ys.take k).length ≤ 4 + k) := by show _ ≤ _; simp [be4]; omega
        clear h3 H3
        generalize ys.getD k 0 = x at *
        have HN2 : Hid (be4 (ys.length : Int) ++ ys.take (k + 1) = (be4 (ys.length : Int) ++ ys.take k) ++ [x]) := by show _ = _; rw [HN.out]; simp
        clear HN
        generalize be4 (ys.length : Int) ++ ys.take k = zs at *
        have hsz := hbel.size
        go_wp2_with (at_builtin; refine wpList_append_own _ rfl _ _ 27 rfl w.heap.size 5 i0 (.int .u8 0) 1 1 Tryz.underlying27 hi hz0 hz1 hz2 rfl (by decide) _ _ _ rfl (hown.alloc _) ⟨wr.heap.size, 0, none⟩ 1 1 [.int .u8 x] rfl rfl ?c1 ?c2 ?c3 ?c4 ?c5 ?_)
        case c1 =>
          intro j u hj
          match j, hj with
          | 0, hj => simp at hj; subst hj; simp [Addr.add]
        case c2 => intro u hu; simp at hu; subst hu; rfl
        case c3 => have := HL.out; unfold maxLen; omega
        case c4 => have := HL.out; omega
        case c5 => simp; omega
        intro v' w1 hown' hgrow _
        have R := app_rel hsz hown hbel hown' hgrow
        clear hown' hgrow hown hc
        go_wp2
        go_roundw
        case rel => exact ⟨k + 1, by omega, by go_num, by rw [HN2.out]; exact R.1, R.2.1⟩
        case measure => simp [intOf]; omega
    · obtain rfl : k = ys.length := by omega
      rw [List.take_length] at hown
      go_wp2
      go_ret
      exact ⟨_, rfl, hown, hbel⟩

set_option maxHeartbeats 400000 in
theorem refText_any (s : ByteArray) (w : World) (hl : s.size ≤ 2147483647) :
    Calls Tryz.prog 37 #[.string s] w fun e w' => ∃ v', e = .returned v' ∧ Owns w' w.heap.size v' (be4 (txt s).length ++ txt s) ∧ Below w.heap.size w w' := by
  have hcv := run_bytes_of_string (P := Tryz.prog) w 9 27 5 s Tryz.underlying9 Tryz.underlying27 Tryz.underlying5
  go_enter Tryz.func37, Tryz.ntmps37
  go_wp2_with fail
  refine (refBuffer_any _ (txt s) _ (by exact sees_text w s (by unfold maxLen; omega) _) (by rw [txt_len]; omega)).mono ?_
  rintro e w1 ⟨v', rfl, ho, hb⟩
  have HP : Hid (Owns w1 w.heap.size v' (be4 (txt s).length ++ txt s) ∧ Below w.heap.size w w1) :=
    ⟨owns_mono ho (by simp), ((Below.refl w.heap.size w).alloc (Nat.le_refl _) _).drew.trans (hb.mono (by simp))⟩
  clear ho hb
  go_wp2
  go_ret
  exact ⟨_, rfl, HP.out⟩

set_option maxHeartbeats 400000 in
/-- spoil of a list in a row of its own: the row alone is written. -/
theorem spoil_any (g : Nat) (zs : List Int) (n cap : Nat) (w : World) (hown : Owns w 0 (.slice (some ⟨g, 0, none⟩) zs.length cap) zs) (hn : n ≤ zs.length) (hm : zs.length ≤ 70000000000000) :
    Calls Tryz.prog 12 #[.slice (some ⟨g, 0, none⟩) n cap] w fun e w' => e = .returned (.tuple #[]) ∧ Kept w w' (· = g) := by
  have H0 : Hid (Owns w 0 (.slice (some ⟨g, 0, none⟩) zs.length cap) zs) := hown
  clear hown
  go_enter Tryz.func12, Tryz.ntmps12
  go_wp2
  go_loopw [2] (fun i wr => ∃ (k : Nat) (ys : List Int), k ≤ n ∧ i = .int .i64 k ∧ ys.length = zs.length ∧ Owns wr 0 (.slice (some ⟨g, 0, none⟩) ys.length cap) ys ∧ Kept w wr (· = g)) (fun i _ => n - (intOf i).toNat)
  case atStart => exact ⟨0, zs, Nat.zero_le _, rfl, rfl, H0.out, Kept.refl _ _⟩
  case round =>
    clear H0
    obtain ⟨k, ys, hk, rfl, hyl, hown, hkp⟩ := hrel
    have HO : Hid (ys.length = zs.length ∧ Owns wr 0 (.slice (some ⟨g, 0, none⟩) ys.length cap) ys ∧ Kept w wr (· = g)) := ⟨hyl, hown, hkp⟩
    clear hyl hown hkp
    by_cases hlt : k < n
    · have hc := owns_cell HO.out.2.1 k (by have := HO.out.1; omega)
      have hf := HO.out.2.1.frozenAt k
      go_wp2
      have R := (owns_set HO.out.2.1 k (200 + (k : Int) % 50)).1
      have R2 := HO.out.2.2.setCell ⟨g, k, none⟩ (.int .u8 (200 + (k : Int) % 50)) (fun _ => rfl)
      go_roundw
      case rel => exact ⟨k + 1, _, by omega, by go_num, by rw [List.length_set]; exact HO.out.1, R, R2⟩
      case measure => simp [intOf]; omega
    · go_wp2
      go_end0
      exact ⟨rfl, HO.out.2.2⟩
end Go.Proofs.YtmjcpcpcngpdjaaGreatDoor
