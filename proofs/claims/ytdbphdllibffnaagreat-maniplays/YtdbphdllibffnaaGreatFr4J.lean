/- What frame.Put answers: a body's frame in new memory, or ErrFrame. -/
import Derived.Test.YtdbphdllibffnaaGreatFr3J
import Derived.Test.YtdbphdllibffnaaGreatCopyJ
namespace Go.Proofs.YtdbphdllibffnaaGreat
open Go.RowKit
set_option maxRecDepth 8000

/-- 'copy' of bytes into a row of the call's own that is as long as its block. -/
theorem run_cp {w : World} {B g : Nat} {zs : List Int} (hown : Owns w B (.slice (some ⟨g, 0, none⟩) zs.length zs.length) zs) {off dl dc : Nat} {u : Value} {ys : List Int} (ty : TypeId) (hsee : Sees w u ys) (hne : ys ≠ []) (hfit : off + dl ≤ zs.length) (hyl : ys.length ≤ dl) :
    ∃ w' zs', (Builtin.copy_ #[36, 36] ty #[.slice (some ⟨g, off, none⟩) dl dc, u]).run Tryz.prog w = .ok (.int .i64 ys.length) w' ∧ zs' = zs.take off ++ (ys ++ zs.drop (off + ys.length)) ∧ Owns w' B (.slice (some ⟨g, 0, none⟩) zs'.length zs'.length) zs' ∧ Kept w w' (· = g) := by
  obtain ⟨i0, hi, hz0, hz1, hz2⟩ := info_parts Tryz.infoByte
  have hsz : (Tryz.prog.info? 5).map (·.size) = some 1 := by rw [hi]; simp [hz1]
  obtain ⟨hl, hd2⟩ := hown
  rcases hd2 with ⟨e, _⟩ | ⟨g', cap, cur, e, k1, k2, k3, k4, k5, k6⟩
  · simp at e
  · simp at e
    obtain ⟨rfl, rfl⟩ := e
    obtain ⟨b, of, cp, rfl, _, _, _, q3⟩ := sees_some hsee hne
    have hcur : cur.toList = zs.map (Value.int .u8) := by
      rw [← k6, List.take_of_length_le]; simp; omega
    have hmin : (ys.map (Value.int .u8)).length = Nat.min ys.length dl := by rw [List.length_map]; exact (Nat.min_eq_left hyl).symm
    have hrun := run_copy_row (P := Tryz.prog) w 36 36 ty 5 g off dl dc ⟨b, of, none⟩ ys.length cp cur 5 (ys.map (Value.int .u8)) Tryz.underlying36 hsz (by simpa using k2) hmin (news_at q3) (by rw [List.length_map]; have := k5; simp at this; omega) (ints_oneCell .u8 ys)
    rw [List.length_map] at hrun
    have e2 : cur.toList.take off ++ ys.map (Value.int .u8) ++ cur.toList.drop (off + ys.length) = (zs.take off ++ (ys ++ zs.drop (off + ys.length))).map (Value.int .u8) := by
      rw [hcur]; simp
    rw [e2] at hrun
    have hlen : (zs.take off ++ (ys ++ zs.drop (off + ys.length))).length = zs.length := by simp; omega
    refine ⟨_, _, hrun, rfl, ⟨by simp, .inr ⟨g, _, ((zs.take off ++ (ys ++ zs.drop (off + ys.length))).map (Value.int .u8)).toArray, rfl, k1, ?_, Nat.le_refl _, by omega, by simp, ?_⟩⟩, ?_⟩
    · exact setRow_heap w g _ _ _ _ (by simpa using k2)
    · rw [List.take_of_length_le]
      simp only [List.length_map, Nat.mul_one]
      exact Nat.le_refl _
    · exact ⟨rfl, rfl, rfl, by simp [World.setRow], fun k _ hn => setRow_other w g k _ hn⟩

theorem nil_of {xs : List Int} (h : 1 ≤ xs.length) : xs ≠ [] := fun e => by subst e; simp at h

theorem rows_lt {w : World} {B : Nat} {v : Value} {xs : List Int} {k : Nat} (h : Owns w B v xs) (hk : v.ownBlock = some k) : k < w.heap.size := by
  rcases h.2 with ⟨rfl, _⟩ | ⟨g, cap, cur, rfl, _, h2, _⟩
  · simp [Value.ownBlock] at hk
  · simp [Value.ownBlock] at hk; subst hk; exact lt_of_block h2

/-- An array of bytes, newly laid, as a slice of all of it. -/
theorem sees_arr (w : World) (cs : Array Value) (T : TypeId) (ys : List Int) (hl : ys.length ≤ 4096) (h : cs.toList = ys.map (Value.int .u8)) : Sees (w.alloc (.cells cs T)) (.slice (some ⟨w.heap.size, 0, none⟩) ys.length ys.length) ys := by
  refine ⟨_, _, rfl, Nat.le_refl _, by unfold maxLen; omega, fun e => by simp at e, .inr ⟨_, _, rfl, fun i hi => ?_⟩⟩
  rw [Nat.zero_add, cell_of_row _ w.heap.size i cs T (0, 0) (heap_alloc_new w _), ← Array.getElem?_toList, h]
  simp [hi, List.getD_eq_getElem?_getD]

theorem put_form (xs : List Int) (n : Nat) (hn : n = xs.length) : ((((List.replicate (n + 9) (0 : Int)).take 0 ++ (headL xs ++ (List.replicate (n + 9) (0 : Int)).drop (0 + (headL xs).length))).take 8 ++ (xs ++ ((List.replicate (n + 9) (0 : Int)).take 0 ++ (headL xs ++ (List.replicate (n + 9) (0 : Int)).drop (0 + (headL xs).length))).drop (8 + xs.length))).set (n + 8) 66) = frameL xs := by
  subst hn
  have h8 := headL_len xs
  simp only [List.take_zero, List.nil_append, Nat.zero_add, h8]
  rw [List.take_append_of_le_length (by omega), List.take_of_length_le (by omega), List.drop_append, h8, List.drop_eq_nil_of_le (by omega)]
  simp only [List.nil_append, List.drop_replicate, Nat.add_sub_cancel_left]
  rw [show xs.length + 9 - 8 - xs.length = 1 by omega]
  unfold frameL
  rw [List.set_append_right _ _ (by omega), List.set_append_right _ _ (by omega), h8]
  rw [show xs.length + 8 - 8 - xs.length = 0 by omega]
  rfl

set_option maxHeartbeats 1000000 in
theorem put_ok (v : Value) (xs : List Int) (w : World) (h : Sees w v xs) (hb : Byts xs) (hs : isSz xs.length = true) :
    Calls Tryz.prog 39 #[v] w fun e w' => ∃ g, e = .returned (.tuple #[.slice (some ⟨g, 0, none⟩) (frameL xs).length (frameL xs).length, .int .i64 0]) ∧ w.heap.size ≤ g ∧ Owns w' w.heap.size (.slice (some ⟨g, 0, none⟩) (frameL xs).length (frameL xs).length) (frameL xs) ∧ Below w.heap.size w w' := by
  have hl : 1 ≤ xs.length ∧ xs.length ≤ 1048576 := by simp [isSz] at hs; omega
  obtain ⟨l1, l2⟩ := hl
  obtain ⟨i0, hi, hz0, hz1, hz2⟩ := info_parts Tryz.infoByte
  have hsz : (Tryz.prog.info? 5).map (·.size) = some 1 := by rw [hi]; simp [hz1]
  have H : Hid (Sees w v xs ∧ Byts xs) := ⟨h, hb⟩
  obtain ⟨b0, b1, b2, b3, b4, b5, b6, b7, hh⟩ := eight xs
  have HH : Hid (∀ wx, Sees wx v xs → Calls Tryz.prog 76 #[v] wx fun e w' => e = .returned (.agg #[.int .u8 b0, .int .u8 b1, .int .u8 b2, .int .u8 b3, .int .u8 b4, .int .u8 b5, .int .u8 b6, .int .u8 b7]) ∧ Below wx.heap.size wx w') := fun wx hs => by
    have := head_any _ xs wx hs hb (by omega)
    unfold headV at this
    rw [hh] at this
    exact this
  have HP : Hid (headL xs = [b0, b1, b2, b3, b4, b5, b6, b7]) := hh
  have HF : Hid (_ = frameL xs) := put_form xs xs.length rfl
  obtain ⟨ao, cap, rfl, g1, g2, g0, g3⟩ := h
  clear g3 g0 hb hh
  unfold maxLen at g2
  go_enter Tryz.func39, Tryz.ntmps39
  go_wp2_with fail
  refine (isSize_any xs.length _).mono ?_
  rw [hs]
  rintro e w1 ⟨rfl, rfl⟩
  go_wp2_with (at_make; refine wpList_make_full _ rfl _ _ 36 rfl w1.heap.size 5 i0 (.int .u8 0) 1 Tryz.underlying36 hi hz0 hz1 .i64 .i64 _ _ (xs.length + 9) rfl rfl (by omega) (by omega) (by rw [hz2]; omega) (by unfold maxLen; omega) (Nat.le_refl _) ?_)
  intro w2 hown0 hgrow0
  have hown1 := made_owns hown0
  have hbel0 : Below w1.heap.size w1 w2 := (Below.refl _ _).grown hgrow0 (Nat.le_refl _) (fun k hk => by simp at hk)
  have H2 : Hid (Owns w2 w1.heap.size (.slice (some ⟨w1.heap.size, 0, none⟩) (List.replicate (xs.length + 9) (0 : Int)).length (xs.length + 9)) (List.replicate (xs.length + 9) 0) ∧ Below w1.heap.size w1 w2) := ⟨hown1, hbel0⟩
  clear hown0 hgrow0 hown1 hbel0
  go_wp2_with fail
  refine (HH.out _ (H.out.1.below H2.out.2 (Nat.le_refl _))).mono ?_
  rintro e w3 ⟨rfl, hb3⟩
  have H3 : Hid (Below w2.heap.size w2 w3) := hb3
  clear hb3
  have hz : (List.replicate (xs.length + 9) (0 : Int)).length = xs.length + 9 := by simp
  obtain ⟨Z, hZ⟩ : ∃ Z, Z = List.replicate (xs.length + 9) (0 : Int) := ⟨_, rfl⟩
  rw [← hZ] at hz
  have HZ : Hid (Z.length = xs.length + 9) := hz
  have O3 : Owns (w3.alloc (.cells #[.int .u8 b0, .int .u8 b1, .int .u8 b2, .int .u8 b3, .int .u8 b4, .int .u8 b5, .int .u8 b6, .int .u8 b7] 109)) w1.heap.size (.slice (some ⟨w1.heap.size, 0, none⟩) Z.length Z.length) Z := by
    have h1 := H2.out.1
    rw [← hZ] at h1
    rw [← hz] at h1
    exact (h1.kept (S := fun k => w2.heap.size ≤ k) (Below.kept H3.out) (fun k hk => by
      have := rows_lt h1 hk
      omega)).alloc _
  have S3 : Sees (w3.alloc (.cells #[.int .u8 b0, .int .u8 b1, .int .u8 b2, .int .u8 b3, .int .u8 b4, .int .u8 b5, .int .u8 b6, .int .u8 b7] 109)) (.slice (some ⟨w3.heap.size, 0, none⟩) 8 8) (headL xs) := by
    rw [HP.out]
    exact sees_arr _ _ _ [b0, b1, b2, b3, b4, b5, b6, b7] (by simp) rfl
  have B3 : Below w1.heap.size w1 (w3.alloc (.cells #[.int .u8 b0, .int .u8 b1, .int .u8 b2, .int .u8 b3, .int .u8 b4, .int .u8 b5, .int .u8 b6, .int .u8 b7] 109)) := (H2.out.2.trans (below_low H3.out H2.out.2.size)).alloc (by have := H2.out.2.size; have := H3.out.size; omega) _
  have HF2 : Hid (_ = frameL xs) := HF.out
  rw [← hZ] at HF2
  have HO3 : Hid (Owns _ w1.heap.size (.slice (some ⟨w1.heap.size, 0, none⟩) Z.length Z.length) Z) := O3
  have HS3 : Hid (Sees _ (.slice (some ⟨w3.heap.size, 0, none⟩) 8 8) (headL xs)) := S3
  have HB3 : Hid (Below w1.heap.size w1 _) := B3
  clear HF hZ O3 S3 B3 hz
  obtain ⟨w4, Z4, hr4, hZ4, hO4, hB4⟩ := run_cp (B := w1.heap.size) (g := w1.heap.size) (off := 0) (dl := xs.length + 9) (dc := xs.length + 9) HO3.out 3 HS3.out (fun e => by have := headL_len xs; rw [e] at this; simp at this) (by have := HZ.out; omega) (by rw [headL_len]; omega)
  have hl8 : (headL xs).length = 8 := headL_len xs
  rw [hl8] at hr4
  go_wp2_with fail
  have HZ4 : Hid (Z4.length = xs.length + 9 ∧ Z4 = Z.take 0 ++ (headL xs ++ Z.drop (0 + (headL xs).length)) ∧ Owns w4 w1.heap.size (.slice (some ⟨w1.heap.size, 0, none⟩) Z4.length Z4.length) Z4 ∧ Below w1.heap.size w1 w4) := by
    refine ⟨?_, hZ4, hO4, HB3.out.trans (hB4.below HB3.out.size (fun k hk => by omega))⟩
    rw [hZ4]; simp [headL_len, HZ.out]; omega
  clear hr4 hl8
  clear hZ4 hO4 hB4 HO3 HS3
  have fit5 : 8 + (xs.length + 1) ≤ Z4.length := by rw [HZ4.out.1]; omega
  obtain ⟨w5, Z5, hr5, hZ5, hO5, hB5⟩ := run_cp (B := w1.heap.size) (g := w1.heap.size) (off := 8) (dl := xs.length + 1) (dc := xs.length + 1) HZ4.out.2.2.1 3 (H.out.1.below HZ4.out.2.2.2 (Nat.le_refl _)) (nil_of l1) fit5 (by omega)
  rw [hr5]
  have HZ5 : Hid (Z5.length = xs.length + 9 ∧ Z5.set (xs.length + 8) 66 = frameL xs ∧ Owns w5 w1.heap.size (.slice (some ⟨w1.heap.size, 0, none⟩) Z5.length Z5.length) Z5 ∧ Below w1.heap.size w1 w5) := by
    refine ⟨?_, ?_, hO5, HZ4.out.2.2.2.trans (hB5.below HZ4.out.2.2.2.size (fun k hk => by omega))⟩
    · rw [hZ5]; simp [HZ4.out.1]; omega
    · rw [hZ5, HZ4.out.2.1]; exact HF2.out
  clear hr5
  clear hZ5 hO5 hB5
  have hc5 := owns_cell HZ5.out.2.2.1 (xs.length + 8) (by have := HZ5.out.1; omega)
  have hf5 := HZ5.out.2.2.1.frozenAt (xs.length + 8)
  have R : Hid (Owns (w5.setCell ⟨w1.heap.size, xs.length + 8, none⟩ (.int .u8 66)) w1.heap.size (.slice (some ⟨w1.heap.size, 0, none⟩) (frameL xs).length (frameL xs).length) (frameL xs) ∧ Below w1.heap.size w1 (w5.setCell ⟨w1.heap.size, xs.length + 8, none⟩ (.int .u8 66))) := by
    have := (owns_set HZ5.out.2.2.1 (xs.length + 8) 66).1
    rw [HZ5.out.2.1] at this
    have hl5 : Z5.length = (frameL xs).length := by rw [frameL_len]; exact HZ5.out.1
    rw [hl5] at this
    exact ⟨this, HZ5.out.2.2.2.setCell (p := ⟨w1.heap.size, xs.length + 8, none⟩) (Nat.le_refl _) _⟩
  have hfl := frameL_len xs
  clear HF2 HZ4 HB3
  generalize Z5.getD (xs.length + 8) 0 = z at *
  go_wp2
  go_ret2
  exact ⟨w1.heap.size, by rw [hfl]; rfl, Nat.le_refl _, R.out⟩

end Go.Proofs.YtdbphdllibffnaaGreat
