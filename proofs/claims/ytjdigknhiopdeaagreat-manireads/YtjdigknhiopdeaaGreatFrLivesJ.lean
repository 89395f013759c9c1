/- What the document's own bytes of whole numbers are: digits and Int32 of lagoonref01. -/
import Derived.Test.YtjdigknhiopdeaaGreatWorksJ
import Derived.Test.YtjdigknhiopdeaaGreatCopyJ
import Derived.Test.YtjdigknhiopdeaaGreatFr5J
namespace Go.Proofs.YtjdigknhiopdeaaGreat
open Go.RowKit
set_option maxRecDepth 8000

/-- The lowest m digits to the base 256, the highest first. -/
def digs : Nat → Int → List Int
  | 0, _ => []
  | m + 1, n => digs m (n / 256) ++ [n % 256]

theorem digs_len (m : Nat) (n : Int) : (digs m n).length = m := by
  induction m generalizing n with
  | zero => rfl
  | succ m ih => simp [digs, ih]

theorem digs_byts (m : Nat) (n : Int) : Byts (digs m n) := by
  induction m generalizing n with
  | zero => intro x hx; simp [digs] at hx
  | succ m ih =>
    refine (ih _).append ?_
    intro x hx
    simp at hx
    omega

theorem digs4 (n : Int) (h0 : 0 ≤ n) (h1 : n < 4294967296) : digs 4 n = be4 n := by
  simp only [digs, be4, List.nil_append, List.cons_append, List.cons.injEq, and_true]
  omega

theorem digs8 (n : Int) (h0 : 0 ≤ n) (h1 : n ≤ 18446744073709551615) : digs 8 n = be8 n := by
  simp only [digs, be8, be4, List.nil_append, List.cons_append, List.cons.injEq, and_true]
  omega

theorem drop_set {zs : List Int} {k : Nat} (x : Int) (hk : k < zs.length) : (zs.set k x).drop k = x :: zs.drop (k + 1) := by
  rw [List.drop_eq_getElem_cons (by simpa using hk), List.drop_set_of_lt (by omega)]
  simp

set_option maxHeartbeats 400000 in
theorem digits_any (n : Int) (m : Nat) (w : World) (hm : m ≤ 8) (h0 : 0 ≤ n) (h1 : n ≤ 18446744073709551615) :
    Calls Tryz.prog 71 #[.int .u64 n, .int .i64 m] w fun e w' => ∃ v', e = .returned v' ∧ Owns w' w.heap.size v' (digs m n) ∧ Below w.heap.size w w' := by
  obtain ⟨i0, hi, hz0, hz1, hz2⟩ := info_parts Tryz.infoByte
  go_enter Tryz.func71, Tryz.ntmps71
  go_wp2_with (at_make; refine wpList_make_full _ rfl _ _ 22 rfl w.heap.size 5 i0 (.int .u8 0) 1 Tryz.underlying22 hi hz0 hz1 .i64 .i64 _ _ m rfl rfl (by omega) (by omega) (by rw [hz2]; omega) (by unfold maxLen; omega) (Nat.le_refl _) ?_)
  intro w0 hown0 hgrow0
  have hown1 := made_owns hown0
  have hbel0 : Below w.heap.size w w0 := (Below.refl _ _).grown hgrow0 (Nat.le_refl _) (fun k hk => by simp at hk)
  have HO1 : Hid (Owns w0 w.heap.size (.slice (some ⟨w.heap.size, 0, none⟩) (List.replicate m (0 : Int)).length m) (List.replicate m 0)) := hown1
  clear hown0 hgrow0 hown1
  go_wp2
  go_loopw [0, 6] (fun q i wr => ∃ (k : Nat) (c : Int) (zs : List Int), k ≤ m ∧ 0 ≤ c ∧ c ≤ 18446744073709551615 ∧ q = .int .u64 c ∧ i = .int .i64 (k - 1) ∧ zs.length = m ∧ Owns wr w.heap.size (.slice (some ⟨w.heap.size, 0, none⟩) zs.length m) zs ∧ digs m n = digs k c ++ zs.drop k ∧ Below w.heap.size w wr) (fun _ i _ => (intOf i + 1).toNat)
  case atStart => exact ⟨m, n, _, Nat.le_refl _, h0, h1, rfl, by go_num, by simp, HO1.out, by simp, hbel0⟩
  case round =>
    clear HO1 hbel0 w0
    obtain ⟨k, c, zs, hk, hc0, hc1, rfl, rfl, hzl, hown, hd, hbel⟩ := hrel
    have HZ : Hid (zs.length = m ∧ Owns wr w.heap.size (.slice (some ⟨w.heap.size, 0, none⟩) zs.length m) zs ∧ digs m n = digs k c ++ zs.drop k ∧ Below w.heap.size w wr) := ⟨hzl, hown, hd, hbel⟩
    clear hd hzl hbel
    cases k with
    | zero =>
      clear hown
      go_wp2
      go_ret
      obtain ⟨z1, z2, z3, z4⟩ := HZ.out
      have e : digs m n = zs := by rw [z3]; simp [digs]
      rw [z1] at z2
      exact ⟨_, rfl, by rw [e]; exact z2, z4⟩
    | succ k =>
      have e : ((k + 1 : Nat) : Int) - 1 = k := by omega
      rw [e]
      clear e
      have hcz := owns_cell hown k (by rw [HZ.out.1]; omega)
      have hfz := hown.frozenAt k
      clear hown
      go_wp2
      obtain ⟨z1, z2, z3, z4⟩ := HZ.out
      have R := owns_set z2 k (c % 256)
      have R2 : digs m n = digs k (c / 256) ++ (zs.set k (c % 256)).drop k := by
        rw [drop_set _ (by omega), z3]; simp [digs]
      have R3 : Below w.heap.size w (wr.setCell ⟨w.heap.size, k, none⟩ (.int .u8 (c % 256))) := z4.setCell (Nat.le_refl _) _
      go_roundw
      case rel => exact ⟨k, c / 256, zs.set k (c % 256), by omega, by omega, by omega, rfl, by go_num, by simpa using z1, R.1, R2, R3⟩
      case measure => simp [intOf]

end Go.Proofs.YtjdigknhiopdeaaGreat

/- What the document's own bytes of an int64 are: Int64 of lagoonref01. -/
namespace Go.Proofs.YtjdigknhiopdeaaGreat
open Go.RowKit
set_option maxRecDepth 8000

/-- The loop of lagoonref01.Int64 below 0 takes each digit from 255. -/
theorem flip_digs (m : Nat) (n : Int) : (digs m n).map (fun x => 255 - x) = digs m (-1 - n) := by
  induction m generalizing n with
  | zero => rfl
  | succ m ih =>
    simp only [digs, List.map_append, ih, List.map_cons, List.map_nil]
    rw [show (-1 - n) / 256 = -1 - n / 256 by omega, show (-1 - n) % 256 = 255 - n % 256 by omega]

theorem digs_up64 (n : Int) (h0 : -9223372036854775808 ≤ n) (h1 : n < 0) : digs 8 n = be8 (up64 n) := by
  rw [← digs8 (up64 n) (up64_bd n).1 (up64_bd n).2]
  have : up64 n = n + 18446744073709551616 := by unfold up64; omega
  rw [this]
  simp only [digs, List.nil_append, List.cons_append, List.cons.injEq, and_true]
  omega

theorem flip_nth (zs : List Int) (k : Nat) (hk : k < zs.length) (ds : List Int) (h : ∀ j, j < zs.length → zs.getD j 0 = if j < k then 255 - ds.getD j 0 else ds.getD j 0) :
    ∀ j, j < (zs.set k (255 - ds.getD k 0)).length → (zs.set k (255 - ds.getD k 0)).getD j 0 = if j < k + 1 then 255 - ds.getD j 0 else ds.getD j 0 := by
  intro j hj
  simp at hj
  rw [nth_set zs k j _ hk]
  by_cases e : j = k
  · rw [if_pos e, if_pos (by omega), e]
  · rw [if_neg e, h j hj]
    by_cases e2 : j < k
    · rw [if_pos e2, if_pos (by omega)]
    · rw [if_neg e2, if_neg (by omega)]

set_option maxHeartbeats 1000000 in
theorem refInt64_any (n : Int) (w : World) (h0 : -9223372036854775808 ≤ n) (h1 : n ≤ 9223372036854775807) :
    Calls Tryz.prog 45 #[.int .i64 n] w fun e w' => ∃ v', e = .returned v' ∧ Owns w' w.heap.size v' (be8 (up64 n)) ∧ Below w.heap.size w w' := by
  by_cases hn : 0 ≤ n
  · have hd : Hid (digs 8 n = be8 (up64 n)) := by
      have : up64 n = n := by unfold up64; omega
      show _ = _
      rw [this]; exact digs8 _ (by omega) (by omega)
    go_enter Tryz.func45, Tryz.ntmps45
    go_wp2_with fail
    refine (digits_any n 8 _ (by omega) (by omega) (by omega)).mono ?_
    rintro e w1 ⟨v, rfl, hp⟩
    rw [hd.out] at hp
    have HP : Hid (Owns w1 w.heap.size v (be8 (up64 n)) ∧ Below w.heap.size w w1) := hp
    clear hp
    go_wp2
    go_ret
    exact ⟨_, rfl, HP.out⟩
  · have hd : Hid (digs 8 n = be8 (up64 n)) := digs_up64 n h0 (by omega)
    have HF : Hid ((digs 8 (-1 - n)).map (fun x => 255 - x) = digs 8 n) := by
      have := flip_digs 8 (-1 - n)
      rw [show -1 - (-1 - n) = n by omega] at this
      exact this
    have HDB : Hid (Byts (digs 8 (-1 - n))) := digs_byts _ _
    have HDL : Hid ((digs 8 (-1 - n)).length = 8) := digs_len _ _
    go_enter Tryz.func45, Tryz.ntmps45
    go_wp2_with fail
    refine (digits_any (-1 - n) 8 _ (by omega) (by omega) (by omega)).mono ?_
    rintro e w1 ⟨v, rfl, ho, hbel⟩
    generalize digs 8 (-1 - n) = ds at *
    obtain ⟨g, c, hv, hg⟩ := owns_some ho (by rw [HDL.out]; omega)
    rw [HDL.out] at hv
    subst hv
    have HP : Hid (Owns w1 w.heap.size (.slice (some ⟨g, 0, none⟩) 8 c) ds ∧ Below w.heap.size w w1) := ⟨ho, hbel⟩
    clear ho hbel
    go_wp2
    go_loopw [4] (fun i wr => ∃ (k : Nat) (zs : List Int), k ≤ 8 ∧ i = .int .i64 k ∧ zs.length = 8 ∧ Owns wr w.heap.size (.slice (some ⟨g, 0, none⟩) 8 c) zs ∧ (∀ j, j < zs.length → zs.getD j 0 = if j < k then 255 - ds.getD j 0 else ds.getD j 0) ∧ Below w.heap.size w wr) (fun i _ => 8 - (intOf i).toNat)
    case atStart => exact ⟨0, ds, by omega, rfl, HDL.out, HP.out.1, fun j hj => by simp, HP.out.2⟩
    case round =>
      clear HP
      obtain ⟨k, zs, hk, rfl, hzl, hown, hpt, hbel⟩ := hrel
      have HZ : Hid (zs.length = 8 ∧ Owns wr w.heap.size (.slice (some ⟨g, 0, none⟩) zs.length c) zs ∧ (∀ j, j < zs.length → zs.getD j 0 = if j < k then 255 - ds.getD j 0 else ds.getD j 0) ∧ Below w.heap.size w wr) := ⟨hzl, by rw [hzl]; exact hown, hpt, hbel⟩
      clear hown hpt hbel hzl
      by_cases hlt : k < 8
      · have hcz := owns_cell HZ.out.2.1 k (by rw [HZ.out.1]; omega)
        rw [HZ.out.2.2.1 k (by rw [HZ.out.1]; omega), if_neg (by omega)] at hcz
        have hfz := HZ.out.2.1.frozenAt k
        have hx := HDB.out.nth k
        have HN := flip_nth zs k (by rw [HZ.out.1]; omega) ds HZ.out.2.2.1
        have HN' : Hid _ := HN
        have HS : Hid (Owns (wr.setCell ⟨g, k, none⟩ (.int .u8 (255 - ds.getD k 0))) w.heap.size (.slice (some ⟨g, 0, none⟩) (zs.set k (255 - ds.getD k 0)).length c) (zs.set k (255 - ds.getD k 0))) := (owns_set HZ.out.2.1 k (255 - ds.getD k 0)).1
        clear HN
        generalize ds.getD k 0 = x at *
        go_wp2
        have z2 := HS.out
        rw [List.length_set, HZ.out.1] at z2
        have R3 : Below w.heap.size w (wr.setCell ⟨g, k, none⟩ (.int .u8 (255 - x))) := HZ.out.2.2.2.setCell hg _
        go_roundw
        case rel => exact ⟨k + 1, zs.set k (255 - x), by omega, by go_num, by rw [List.length_set]; exact HZ.out.1, z2, HN'.out, R3⟩
        case measure => simp [intOf]; omega
      · have he : zs = be8 (up64 n) := by
          rw [← hd.out, ← HF.out]
          refine list_of_nths (by rw [List.length_map, HZ.out.1, HDL.out]) (fun j hj => ?_)
          rw [HZ.out.2.2.1 j hj, if_pos (by have := HZ.out.1; omega)]
          have hj' : j < ds.length := by have := HZ.out.1; have := HDL.out; omega
          simp [List.getD_eq_getElem?_getD, hj']
        have z2 := HZ.out.2.1
        rw [HZ.out.1, he] at z2
        have HR : Hid (Owns wr w.heap.size (.slice (some ⟨g, 0, none⟩) 8 c) (be8 (up64 n)) ∧ Below w.heap.size w wr) := ⟨z2, HZ.out.2.2.2⟩
        clear z2 he HZ
        go_wp2
        go_ret
        exact ⟨_, rfl, HR.out⟩

end Go.Proofs.YtjdigknhiopdeaaGreat

/- What the statements' own first look 'lives' answers: true; nothing that was there before is changed. -/
namespace Go.Proofs.YtjdigknhiopdeaaGreat
open Go.RowKit
set_option maxRecDepth 8000

end Go.Proofs.YtjdigknhiopdeaaGreat
