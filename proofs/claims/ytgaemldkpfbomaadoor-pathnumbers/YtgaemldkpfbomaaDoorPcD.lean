/- What the document's Digits answers. -/
import Derived.Test.YtgaemldkpfbomaaDoorPcB
import Derived.Test.YtgaemldkpfbomaaDoorPaL
namespace Go.Proofs.YtgaemldkpfbomaaDoor
open Go.RowKit Go.Shelf
set_option maxRecDepth 8000

theorem padk_cons : ∀ k u, padk (k + 1) u = UInt8.ofNat (48 + u / 10 ^ k % 10) :: padk k u
  | 0, u => by simp [padk]
  | k + 1, u => by
    rw [padk, padk_cons k (u / 10), Nat.div_div_eq_div_mul, show 10 * 10 ^ k = 10 ^ (k + 1) by rw [Nat.pow_succ, Nat.mul_comm]]
    rfl

theorem padk_rev (k u : Nat) : (padk (k + 1) u).reverse = (padk k u).reverse ++ [UInt8.ofNat (48 + u / 10 ^ k % 10)] := by
  rw [padk_cons, List.reverse_cons]

/-- Where the digits end. -/
theorem seqD_pos {n : Int} (h0 : 0 ≤ n) (h1 : n ≤ 2147483647) : seqD n = padk 10 n.natAbs := by
  unfold seqD
  rw [if_neg (by omega)]
  exact (dec_pad 9 n.natAbs (by omega)).2

theorem seqD_neg9 {n : Int} (h0 : n < 0) (h1 : n.natAbs < 10 ^ 9) : seqD n = 45 :: padk 9 n.natAbs := by
  unfold seqD
  rw [if_pos h0]
  have := (dec_pad 8 n.natAbs h1).2
  rw [← this]

theorem seqD_neg10 {n : Int} (h0 : n < 0) (h1 : n.natAbs < 10 ^ 10) (h2 : 10 ^ 9 ≤ n.natAbs) : seqD n = 45 :: padk 10 n.natAbs := by
  unfold seqD
  rw [if_pos h0]
  have hb := dec_pad 9 n.natAbs h1
  have hl : (Lib.decDigits n.natAbs).length = 10 := by
    by_cases h : (Lib.decDigits n.natAbs).length = 10
    · exact h
    · exfalso
      have h9 := hb.1
      obtain ⟨j, hj⟩ : ∃ j, 10 - (Lib.decDigits n.natAbs).length = j + 1 := ⟨9 - (Lib.decDigits n.natAbs).length, by omega⟩
      have := hb.2
      rw [show 9 + 1 = 10 from rfl, hj, List.replicate_succ, padk_cons 9, List.cons_append] at this
      have h3 := (List.cons.inj this).1
      have h4 := congrArg UInt8.toNat h3
      rw [UInt8.toNat_ofNat'] at h4
      simp at h4
      omega
  have := hb.2
  rw [hl] at this ⊢
  rw [← this]

def byteV (x : UInt8) : Value := .int .u8 (x.toNat : Int)

/-- A list of bytes in a row of one's own. -/
abbrev OwnsB (w : World) (base : Nat) (v : Value) (k : Nat) (xs : Bs) : Prop := w.ownsRow base 5 1 v k (xs.map byteV)

theorem Tryd.infoByte : (Tryd.prog.info? 5).map (fun i => (i.zero, i.size, i.bytes)) = some (some (.int .u8 0), 1, 1) := by kernel_rfl

def lenOf : Value → Nat
  | .slice _ n _ => n
  | _ => 0

theorem ownsB_shape {w : World} {base : Nat} {v : Value} {k : Nat} {xs : Bs} (h : OwnsB w base v k xs) : ∃ ao c, v = .slice ao k c ∧ k ≤ c ∧ c ≤ 9223372036854775807 := by
  rcases h.2 with ⟨rfl, h0⟩ | ⟨g, c, cur, rfl, h1, h2, h3, h4, _⟩
  · exact ⟨none, 0, by rw [h0], by omega, by omega⟩
  · exact ⟨_, _, rfl, h3, by unfold maxLen at h4; omega⟩

theorem ownsB_cell {w : World} {base : Nat} {v : Value} {n : Nat} {xs : Bs} (h : OwnsB w base v n xs) (k : Nat) (hk : k < xs.length) (hn : xs.length = n) : ∃ g c, v = .slice (some ⟨g, 0, none⟩) n c ∧ n ≤ c ∧ c ≤ 9223372036854775807 ∧ w.cell? ⟨g, k, none⟩ = some (byteV (xs[k])) := by
  rcases h.2 with ⟨_, h0⟩ | ⟨g, c, cur, rfl, h1, h2, h3, h4, _⟩
  · omega
  · refine ⟨g, c, rfl, h3, by unfold maxLen at h4; omega, ?_⟩
    have := h.cellAt k (by simp; omega)
    rw [this]
    simp [hk]

theorem byte_digit (m : Nat) : byteV (UInt8.ofNat (48 + m % 10)) = .int .u8 (48 + (m : Int) % 10) := by
  unfold byteV
  rw [UInt8.toNat_ofNat', Nat.mod_eq_of_lt (by omega)]
  congr 1

theorem conv_one (w : World) (g k c : Nat) (x : UInt8) (h : w.cell? ⟨g, k, none⟩ = some (byteV x)) : (convert 36 9 (.slice (some ⟨g, k, none⟩) 1 c)).run Tryd.prog w = .ok (.string ⟨#[x]⟩) w := by
  have := run_convert_bytes_arg (P := Tryd.prog) w 36 5 Tryd.underlying36 Tryd.underlying5 g k 1 c [(x.toNat : Int)] rfl (fun i hi => by
    obtain rfl : i = 0 := by omega
    rw [Nat.add_zero, h]
    rfl) 9 Tryd.underlying9
  rw [this]
  congr 2
  simp [strOfNums]

theorem rev_at (k u j : Nat) (hj : j < k) : ∃ x, (∃ h : j < (padk k u).reverse.length, (padk k u).reverse[j] = x) ∧ (padk k u).take (k - (j + 1)) ++ [x] = (padk k u).take (k - j) := by
  have hl := padk_len k u
  refine ⟨_, ⟨by rw [List.length_reverse, hl]; exact hj, rfl⟩, ?_⟩
  rw [List.getElem_reverse, show k - j = (k - (j + 1)) + 1 by omega, List.take_succ_eq_append_getElem (by rw [hl]; omega)]
  congr 2
  congr 1
  rw [hl]
  omega

set_option maxHeartbeats 1000000 in
theorem digits_pos (n : Int) (h0 : 0 ≤ n) (h1 : n ≤ 2147483647) (w : World) :
    Calls Tryd.prog 10 #[.int .i32 n] w fun e w' => e = .returned (bytesV (seqD n)) ∧ Below w.heap.size w w' := by
  obtain ⟨u, hu⟩ : ∃ u : Nat, n = (u : Int) := ⟨n.toNat, by omega⟩
  have HD : Hid (∀ k, 10 ≤ k → k ≤ 10 → (k ≤ 10 ∨ 1000000000 ≤ u) → (k = 9 → u < 1000000000) → seqD n = [] ++ padk k u) := fun k ha hb _ _ => by
    obtain rfl : k = 10 := by omega
    rw [seqD_pos h0 h1, hu]; rfl
  obtain ⟨i0, hi, hz0, hz1', hz2⟩ := info_parts Tryd.infoByte
  obtain ⟨val, hval⟩ : ∃ val, val = bytesV (seqD n) := ⟨_, rfl⟩
  rw [← hval]
  have HVal : Hid (val = bytesV (seqD n)) := hval
  clear hval
  subst hu
  go_enter Tryd.func10, Tryd.ntmps10
  go_wp2
  rw [decide_eq_false (show ¬ ((u : Int) < 0) by omega)]
  go_loopw [3, 6] (fun m v wr => ∃ (k mk : Nat), k ≤ 10 ∧ mk ≤ u ∧ (k ≤ 10 ∨ 1000000000 ≤ u) ∧ Hid (mk = u / 10 ^ k) ∧ m = .int .i64 (mk : Int) ∧ Hid (OwnsB wr w.heap.size v k (padk k u).reverse) ∧ Hid (Below w.heap.size w wr)) (fun _ v _ => 10 - lenOf v)
  case atStart =>
    exact ⟨0, u, by omega, Nat.le_refl _, by omega, (Nat.div_one u).symm, rfl, World.ownsRow_nil _ _ _ _, Below.refl _ _⟩
  case round =>
    obtain ⟨k, mk, hk, hmu, hkw, HM, rfl, HO, HB⟩ := hrel
    obtain ⟨ao, c, rfl, hc1, hc2⟩ := ownsB_shape HO.out
    have hlast : k = 10 → mk = 0 := fun e => by
      rw [HM.out, e]; exact Nat.div_eq_of_lt (by omega)
    have hnine : k = 9 → 0 < mk → 1000000000 ≤ u := fun e h => by
      rw [HM.out, e] at h
      exact (Nat.div_pos_iff.1 h).2
    have hnin0 : k = 9 → mk = 0 → u < 1000000000 := fun e h => by
      rw [HM.out, e] at h; omega
    have HN : Hid (mk / 10 = u / 10 ^ (k + 1)) := by
      show _ = _
      rw [HM.out, Nat.div_div_eq_div_mul, Nat.pow_succ]
    have HV : Hid ((padk (k + 1) u).reverse.map byteV = (padk k u).reverse.map byteV ++ [.int .u8 (48 + (mk : Int) % 10)]) := by
      show _ = _
      rw [padk_rev, List.map_append, ← HM.out]
      simp only [List.map_cons, List.map_nil, byte_digit]
    have hsz := HB.out.size
    by_cases hgo : 0 < mk ∨ k < 10
    · have hk10 : k < 10 := by omega
      by_cases hm : 0 < mk
      · have hm' := hm
        go_wp2_with (at_builtin; refine wpList_append_own _ rfl _ _ 36 rfl w.heap.size 5 i0 (.int .u8 0) 1 1 Tryd.underlying36 hi hz0 hz1' hz2 rfl (by decide) _ _ _ rfl (HO.out.alloc _) ⟨wr.heap.size, 0, none⟩ 1 1 [.int .u8 (48 + (mk : Int) % 10)] rfl rfl ?c1 ?c2 ?c3 ?c4 ?c5 ?_)
        case c1 =>
          intro j u hj
          rw [addrAdd, Nat.zero_add, cell_of_row _ _ _ _ _ _ (heap_alloc_new _ _), ← hj]
          simp
        case c2 =>
          intro u hu
          simp only [List.mem_cons, List.not_mem_nil, or_false] at hu
          subst hu; rfl
        case c3 => unfold maxLen; omega
        case c4 => omega
        case c5 => simp; omega
        intro v' w1 hown' hgrow _
        have HR : Hid (OwnsB w1 w.heap.size v' (k + 1) (padk (k + 1) u).reverse ∧ Below w.heap.size w w1) := by
          refine ⟨?_, (HB.out.alloc HB.out.size _).grown hgrow (by simp; omega) (fun k hk => (HO.out.lt k hk).1)⟩
          unfold OwnsB
          rw [HV.out]
          rw [List.map_reverse]; exact hown'
        obtain ⟨ao', c', rfl, _, _⟩ := ownsB_shape HR.out.1
        clear hown' hgrow
        go_wp2
        go_roundw
        case rel => exact ⟨k + 1, mk / 10, by omega, by omega, by omega, HN.out, by simp, HR.out.1, HR.out.2⟩
        case measure => simp [lenOf]; omega
      · have hkW : k < 10 := by omega
        go_wp2_with (at_builtin; refine wpList_append_own _ rfl _ _ 36 rfl w.heap.size 5 i0 (.int .u8 0) 1 1 Tryd.underlying36 hi hz0 hz1' hz2 rfl (by decide) _ _ _ rfl (HO.out.alloc _) ⟨wr.heap.size, 0, none⟩ 1 1 [.int .u8 (48 + (mk : Int) % 10)] rfl rfl ?c1 ?c2 ?c3 ?c4 ?c5 ?_)
        case c1 =>
          intro j u hj
          rw [addrAdd, Nat.zero_add, cell_of_row _ _ _ _ _ _ (heap_alloc_new _ _), ← hj]
          simp
        case c2 =>
          intro u hu
          simp only [List.mem_cons, List.not_mem_nil, or_false] at hu
          subst hu; rfl
        case c3 => unfold maxLen; omega
        case c4 => omega
        case c5 => simp; omega
        intro v' w1 hown' hgrow _
        have HR : Hid (OwnsB w1 w.heap.size v' (k + 1) (padk (k + 1) u).reverse ∧ Below w.heap.size w w1) := by
          refine ⟨?_, (HB.out.alloc HB.out.size _).grown hgrow (by simp; omega) (fun k hk => (HO.out.lt k hk).1)⟩
          unfold OwnsB
          rw [HV.out]
          rw [List.map_reverse]; exact hown'
        obtain ⟨ao', c', rfl, _, _⟩ := ownsB_shape HR.out.1
        clear hown' hgrow
        go_wp2
        go_roundw
        case rel => exact ⟨k + 1, mk / 10, by omega, by omega, by omega, HN.out, by simp, HR.out.1, HR.out.2⟩
        case measure => simp [lenOf]; omega
    · obtain ⟨hm0, hkW⟩ : mk = 0 ∧ 10 ≤ k := by omega
      subst hm0
      have HE : Hid (seqD (u : Int) = [] ++ padk k u) := HD.out k (by omega) (by omega) (by omega) (fun e => hnin0 e rfl)
      clear hlast hnine hnin0 HN HV HM
      have HK : Hid (OwnsB wr w.heap.size (.slice ao k c) k (padk k u).reverse) := HO.out
      have hkpos : 1 ≤ k := by omega
      go_wp2
      go_loopw [7, 8] (fun s i wq => ∃ (j : Nat) (sb : ByteArray), j ≤ k ∧ i = .int .i64 ((j : Int) - 1) ∧ s = .string sb ∧ sb.size ≤ 20 ∧ Hid (sb.data.toList = [] ++ (padk k u).take (k - j)) ∧ sb.size ≤ 11 - j ∧ Hid (wq = wr)) (fun _ i _ => (intOf i + 1).toNat)
      case atStart =>
        exact ⟨k, ⟨#[]⟩, Nat.le_refl _, by go_num, rfl, by decide, by show _ = _; rw [Nat.sub_self]; rfl, by show 0 ≤ _; omega, rfl⟩
      case round =>
        obtain ⟨j, sb, hj, rfl, rfl, hs20, HS, hsj, HW⟩ := hrel
        have hWq := HW.out
        subst hWq
        clear HW
        by_cases hj0 : 0 < j
        · obtain ⟨j, rfl⟩ : ∃ j', j = j' + 1 := ⟨j - 1, by omega⟩
          obtain ⟨x, ⟨hxl, hx⟩, hx2⟩ := rev_at k u j (by omega)
          obtain ⟨g, c', hsl, _, _, hcell⟩ := ownsB_cell HK.out j hxl (by rw [List.length_reverse, padk_len])
          obtain ⟨rfl, rfl⟩ : ao = some ⟨g, 0, none⟩ ∧ c = c' := by simpa using hsl
          rw [hx] at hcell
          have hconv := fun c2 => conv_one wr g j c2 x hcell
          go_wp2
          have hx3 : (sb ++ ⟨#[x]⟩ : ByteArray).size = sb.size + 1 := by rw [app_size]; rfl
          refine ⟨⟨j, sb ++ ⟨#[x]⟩, by omega, rfl, rfl, by omega, ?_, by omega, trivial⟩, by simp [intOf]⟩
          show _ = _
          rw [app_list, HS.out, List.append_assoc, ← hx2]
        · obtain rfl : j = 0 := by omega
          have HF : Hid (val = .string sb) := by
            show _ = _
            rw [HVal.out, HE.out]
            refine bytesV_list sb _ ?_
            rw [HS.out, Nat.sub_zero, List.take_of_length_le (by rw [padk_len]; exact Nat.le_refl _)]
          go_wp2
          go_ret
          exact ⟨by rw [HF.out]; rfl, HB.out⟩

set_option maxHeartbeats 1000000 in
theorem digits_neg (n : Int) (h0 : n < 0) (h1 : -2147483648 ≤ n) (w : World) :
    Calls Tryd.prog 10 #[.int .i32 n] w fun e w' => e = .returned (bytesV (seqD n)) ∧ Below w.heap.size w w' := by
  obtain ⟨u, hu⟩ : ∃ u : Nat, n = -(u : Int) := ⟨n.natAbs, by omega⟩
  have hab : n.natAbs = u := by omega
  have HD : Hid (∀ k, 9 ≤ k → k ≤ 10 → (k ≤ 9 ∨ 1000000000 ≤ u) → (k = 9 → u < 1000000000) → seqD n = [45] ++ padk k u) := fun k ha hb hc hd => by
    by_cases e : k = 9
    · subst e
      have := hd rfl
      rw [seqD_neg9 h0 (by rw [hab]; omega), hab]; rfl
    · obtain rfl : k = 10 := by omega
      rw [seqD_neg10 h0 (by omega) (by omega), hab]; rfl
  clear hab
  obtain ⟨i0, hi, hz0, hz1', hz2⟩ := info_parts Tryd.infoByte
  obtain ⟨val, hval⟩ : ∃ val, val = bytesV (seqD n) := ⟨_, rfl⟩
  rw [← hval]
  have HVal : Hid (val = bytesV (seqD n)) := hval
  clear hval
  subst hu
  go_enter Tryd.func10, Tryd.ntmps10
  go_wp2
  rw [decide_eq_true (show 0 < u by omega)]
  go_loopw [3, 6] (fun m v wr => ∃ (k mk : Nat), k ≤ 10 ∧ mk ≤ u ∧ (k ≤ 9 ∨ 1000000000 ≤ u) ∧ Hid (mk = u / 10 ^ k) ∧ m = .int .i64 (mk : Int) ∧ Hid (OwnsB wr w.heap.size v k (padk k u).reverse) ∧ Hid (Below w.heap.size w wr)) (fun _ v _ => 10 - lenOf v)
  case atStart =>
    exact ⟨0, u, by omega, Nat.le_refl _, by omega, (Nat.div_one u).symm, rfl, World.ownsRow_nil _ _ _ _, Below.refl _ _⟩
  case round =>
    obtain ⟨k, mk, hk, hmu, hkw, HM, rfl, HO, HB⟩ := hrel
    obtain ⟨ao, c, rfl, hc1, hc2⟩ := ownsB_shape HO.out
    have hlast : k = 10 → mk = 0 := fun e => by
      rw [HM.out, e]; exact Nat.div_eq_of_lt (by omega)
    have hnine : k = 9 → 0 < mk → 1000000000 ≤ u := fun e h => by
      rw [HM.out, e] at h
      exact (Nat.div_pos_iff.1 h).2
    have hnin0 : k = 9 → mk = 0 → u < 1000000000 := fun e h => by
      rw [HM.out, e] at h; omega
    have HN : Hid (mk / 10 = u / 10 ^ (k + 1)) := by
      show _ = _
      rw [HM.out, Nat.div_div_eq_div_mul, Nat.pow_succ]
    have HV : Hid ((padk (k + 1) u).reverse.map byteV = (padk k u).reverse.map byteV ++ [.int .u8 (48 + (mk : Int) % 10)]) := by
      show _ = _
      rw [padk_rev, List.map_append, ← HM.out]
      simp only [List.map_cons, List.map_nil, byte_digit]
    have hsz := HB.out.size
    by_cases hgo : 0 < mk ∨ k < 9
    · have hk10 : k < 10 := by omega
      by_cases hm : 0 < mk
      · have hm' := hm
        go_wp2_with (at_builtin; refine wpList_append_own _ rfl _ _ 36 rfl w.heap.size 5 i0 (.int .u8 0) 1 1 Tryd.underlying36 hi hz0 hz1' hz2 rfl (by decide) _ _ _ rfl (HO.out.alloc _) ⟨wr.heap.size, 0, none⟩ 1 1 [.int .u8 (48 + (mk : Int) % 10)] rfl rfl ?c1 ?c2 ?c3 ?c4 ?c5 ?_)
        case c1 =>
          intro j u hj
          rw [addrAdd, Nat.zero_add, cell_of_row _ _ _ _ _ _ (heap_alloc_new _ _), ← hj]
          simp
        case c2 =>
          intro u hu
          simp only [List.mem_cons, List.not_mem_nil, or_false] at hu
          subst hu; rfl
        case c3 => unfold maxLen; omega
        case c4 => omega
        case c5 => simp; omega
        intro v' w1 hown' hgrow _
        have HR : Hid (OwnsB w1 w.heap.size v' (k + 1) (padk (k + 1) u).reverse ∧ Below w.heap.size w w1) := by
          refine ⟨?_, (HB.out.alloc HB.out.size _).grown hgrow (by simp; omega) (fun k hk => (HO.out.lt k hk).1)⟩
          unfold OwnsB
          rw [HV.out]
          rw [List.map_reverse]; exact hown'
        obtain ⟨ao', c', rfl, _, _⟩ := ownsB_shape HR.out.1
        clear hown' hgrow
        go_wp2
        go_roundw
        case rel => exact ⟨k + 1, mk / 10, by omega, by omega, by omega, HN.out, by simp, HR.out.1, HR.out.2⟩
        case measure => simp [lenOf]; omega
      · have hkW : k < 9 := by omega
        go_wp2_with (at_builtin; refine wpList_append_own _ rfl _ _ 36 rfl w.heap.size 5 i0 (.int .u8 0) 1 1 Tryd.underlying36 hi hz0 hz1' hz2 rfl (by decide) _ _ _ rfl (HO.out.alloc _) ⟨wr.heap.size, 0, none⟩ 1 1 [.int .u8 (48 + (mk : Int) % 10)] rfl rfl ?c1 ?c2 ?c3 ?c4 ?c5 ?_)
        case c1 =>
          intro j u hj
          rw [addrAdd, Nat.zero_add, cell_of_row _ _ _ _ _ _ (heap_alloc_new _ _), ← hj]
          simp
        case c2 =>
          intro u hu
          simp only [List.mem_cons, List.not_mem_nil, or_false] at hu
          subst hu; rfl
        case c3 => unfold maxLen; omega
        case c4 => omega
        case c5 => simp; omega
        intro v' w1 hown' hgrow _
        have HR : Hid (OwnsB w1 w.heap.size v' (k + 1) (padk (k + 1) u).reverse ∧ Below w.heap.size w w1) := by
          refine ⟨?_, (HB.out.alloc HB.out.size _).grown hgrow (by simp; omega) (fun k hk => (HO.out.lt k hk).1)⟩
          unfold OwnsB
          rw [HV.out]
          rw [List.map_reverse]; exact hown'
        obtain ⟨ao', c', rfl, _, _⟩ := ownsB_shape HR.out.1
        clear hown' hgrow
        go_wp2
        go_roundw
        case rel => exact ⟨k + 1, mk / 10, by omega, by omega, by omega, HN.out, by simp, HR.out.1, HR.out.2⟩
        case measure => simp [lenOf]; omega
    · obtain ⟨hm0, hkW⟩ : mk = 0 ∧ 9 ≤ k := by omega
      subst hm0
      have HE : Hid (seqD (-(u : Int)) = [45] ++ padk k u) := HD.out k (by omega) (by omega) (by omega) (fun e => hnin0 e rfl)
      clear hlast hnine hnin0 HN HV HM
      have HK : Hid (OwnsB wr w.heap.size (.slice ao k c) k (padk k u).reverse) := HO.out
      have hkpos : 1 ≤ k := by omega
      go_wp2
      go_loopw [7, 8] (fun s i wq => ∃ (j : Nat) (sb : ByteArray), j ≤ k ∧ i = .int .i64 ((j : Int) - 1) ∧ s = .string sb ∧ sb.size ≤ 20 ∧ Hid (sb.data.toList = [45] ++ (padk k u).take (k - j)) ∧ sb.size ≤ 11 - j ∧ Hid (wq = wr)) (fun _ i _ => (intOf i + 1).toNat)
      case atStart =>
        exact ⟨k, ⟨#[45]⟩, Nat.le_refl _, by go_num, rfl, by decide, by show _ = _; rw [Nat.sub_self]; rfl, by show 1 ≤ _; omega, rfl⟩
      case round =>
        obtain ⟨j, sb, hj, rfl, rfl, hs20, HS, hsj, HW⟩ := hrel
        have hWq := HW.out
        subst hWq
        clear HW
        by_cases hj0 : 0 < j
        · obtain ⟨j, rfl⟩ : ∃ j', j = j' + 1 := ⟨j - 1, by omega⟩
          obtain ⟨x, ⟨hxl, hx⟩, hx2⟩ := rev_at k u j (by omega)
          obtain ⟨g, c', hsl, _, _, hcell⟩ := ownsB_cell HK.out j hxl (by rw [List.length_reverse, padk_len])
          obtain ⟨rfl, rfl⟩ : ao = some ⟨g, 0, none⟩ ∧ c = c' := by simpa using hsl
          rw [hx] at hcell
          have hconv := fun c2 => conv_one wr g j c2 x hcell
          go_wp2
          have hx3 : (sb ++ ⟨#[x]⟩ : ByteArray).size = sb.size + 1 := by rw [app_size]; rfl
          refine ⟨⟨j, sb ++ ⟨#[x]⟩, by omega, rfl, rfl, by omega, ?_, by omega, trivial⟩, by simp [intOf]⟩
          show _ = _
          rw [app_list, HS.out, List.append_assoc, ← hx2]
        · obtain rfl : j = 0 := by omega
          have HF : Hid (val = .string sb) := by
            show _ = _
            rw [HVal.out, HE.out]
            refine bytesV_list sb _ ?_
            rw [HS.out, Nat.sub_zero, List.take_of_length_le (by rw [padk_len]; exact Nat.le_refl _)]
          go_wp2
          go_ret
          exact ⟨by rw [HF.out]; rfl, HB.out⟩

end Go.Proofs.YtgaemldkpfbomaaDoor
