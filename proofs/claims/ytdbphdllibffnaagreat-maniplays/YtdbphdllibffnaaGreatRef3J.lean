/- What the document's own bytes of whole numbers are: digits and Int32 of lagoonref01. -/
import Derived.Test.YtdbphdllibffnaaGreatFrJ
import Derived.Test.YtdbphdllibffnaaGreatCopyJ
import Derived.Test.YtdbphdllibffnaaGreatFr5J
import Derived.Test.YtdbphdllibffnaaGreatMaAJ
import Derived.Deep.AppendLies
import Derived.Maps.AppendAt
namespace Go.Proofs.YtdbphdllibffnaaGreat
open Go.RowKit
set_option maxRecDepth 8000

/-- The lowest m digits to the base 256, the highest first. -/
def digs : Nat → Int → List Int
  | 0, _ => []
  | m + 1, n => digs m (n / 256) ++ [n % 256]

theorem digs_len (m : Nat) (n : Int) : (digs m n).length = m := by
  induction m generalizing n with
  | zero => rfl
  | succ m ih => simp [digs, ih]

theorem digs_byts (m : Nat) (n : Int) : Byts (digs m n) := by
  induction m generalizing n with
  | zero => intro x hx; simp [digs] at hx
  | succ m ih =>
    refine (ih _).append ?_
    intro x hx
    simp at hx
    omega

theorem digs4 (n : Int) (h0 : 0 ≤ n) (h1 : n < 4294967296) : digs 4 n = be4 n := by
  simp only [digs, be4, List.nil_append, List.cons_append, List.cons.injEq, and_true]
  omega

theorem digs8 (n : Int) (h0 : 0 ≤ n) (h1 : n ≤ 18446744073709551615) : digs 8 n = be8 n := by
  simp only [digs, be8, be4, List.nil_append, List.cons_append, List.cons.injEq, and_true]
  omega

theorem drop_set {zs : List Int} {k : Nat} (x : Int) (hk : k < zs.length) : (zs.set k x).drop k = x :: zs.drop (k + 1) := by
  rw [List.drop_eq_getElem_cons (by simpa using hk), List.drop_set_of_lt (by omega)]
  simp

set_option maxHeartbeats 400000 in
theorem digits_any (n : Int) (m : Nat) (w : World) (hm : m ≤ 8) (h0 : 0 ≤ n) (h1 : n ≤ 18446744073709551615) :
    Calls Tryz.prog 124 #[.int .u64 n, .int .i64 m] w fun e w' => ∃ v', e = .returned v' ∧ Owns w' w.heap.size v' (digs m n) ∧ Below w.heap.size w w' := by
  obtain ⟨i0, hi, hz0, hz1, hz2⟩ := info_parts Tryz.infoByte
  go_enter Tryz.func124, Tryz.ntmps124
  go_wp2_with (at_make; refine wpList_make_full _ rfl _ _ 36 rfl w.heap.size 5 i0 (.int .u8 0) 1 Tryz.underlying36 hi hz0 hz1 .i64 .i64 _ _ m rfl rfl (by omega) (by omega) (by rw [hz2]; omega) (by unfold maxLen; omega) (Nat.le_refl _) ?_)
  intro w0 hown0 hgrow0
  have hown1 := made_owns hown0
  have hbel0 : Below w.heap.size w w0 := (Below.refl _ _).grown hgrow0 (Nat.le_refl _) (fun k hk => by simp at hk)
  have HO1 : Hid (Owns w0 w.heap.size (.slice (some ⟨w.heap.size, 0, none⟩) (List.replicate m (0 : Int)).length m) (List.replicate m 0)) := hown1
  clear hown0 hgrow0 hown1
  go_wp2
  go_loopw [0, 6] (fun q i wr => ∃ (k : Nat) (c : Int) (zs : List Int), k ≤ m ∧ 0 ≤ c ∧ c ≤ 18446744073709551615 ∧ q = .int .u64 c ∧ i = .int .i64 (k - 1) ∧ zs.length = m ∧ Owns wr w.heap.size (.slice (some ⟨w.heap.size, 0, none⟩) zs.length m) zs ∧ digs m n = digs k c ++ zs.drop k ∧ Below w.heap.size w wr) (fun _ i _ => (intOf i + 1).toNat)
  case atStart => exact ⟨m, n, _, Nat.le_refl _, h0, h1, rfl, by go_num, by simp, HO1.out, by simp, hbel0⟩
  case round =>
    clear HO1 hbel0 w0
    obtain ⟨k, c, zs, hk, hc0, hc1, rfl, rfl, hzl, hown, hd, hbel⟩ := hrel
    have HZ : Hid (zs.length = m ∧ Owns wr w.heap.size (.slice (some ⟨w.heap.size, 0, none⟩) zs.length m) zs ∧ digs m n = digs k c ++ zs.drop k ∧ Below w.heap.size w wr) := ⟨hzl, hown, hd, hbel⟩
    clear hd hzl hbel
    cases k with
    | zero =>
      clear hown
      go_wp2
      go_ret
      obtain ⟨z1, z2, z3, z4⟩ := HZ.out
      have e : digs m n = zs := by rw [z3]; simp [digs]
      rw [z1] at z2
      exact ⟨_, rfl, by rw [e]; exact z2, z4⟩
    | succ k =>
      have e : ((k + 1 : Nat) : Int) - 1 = k := by omega
      rw [e]
      clear e
      have hcz := owns_cell hown k (by rw [HZ.out.1]; omega)
      have hfz := hown.frozenAt k
      clear hown
      go_wp2
      obtain ⟨z1, z2, z3, z4⟩ := HZ.out
      have R := owns_set z2 k (c % 256)
      have R2 : digs m n = digs k (c / 256) ++ (zs.set k (c % 256)).drop k := by
        rw [drop_set _ (by omega), z3]; simp [digs]
      have R3 : Below w.heap.size w (wr.setCell ⟨w.heap.size, k, none⟩ (.int .u8 (c % 256))) := z4.setCell (Nat.le_refl _) _
      go_roundw
      case rel => exact ⟨k, c / 256, zs.set k (c % 256), by omega, by omega, by omega, rfl, by go_num, by simpa using z1, R.1, R2, R3⟩
      case measure => simp [intOf]

end Go.Proofs.YtdbphdllibffnaaGreat

/- What the document's own bytes of an int64 are: Int64 of lagoonref01. -/
namespace Go.Proofs.YtdbphdllibffnaaGreat
open Go.RowKit
set_option maxRecDepth 8000

/-- The loop of lagoonref01.Int64 below 0 takes each digit from 255. -/
theorem flip_digs (m : Nat) (n : Int) : (digs m n).map (fun x => 255 - x) = digs m (-1 - n) := by
  induction m generalizing n with
  | zero => rfl
  | succ m ih =>
    simp only [digs, List.map_append, ih, List.map_cons, List.map_nil]
    rw [show (-1 - n) / 256 = -1 - n / 256 by omega, show (-1 - n) % 256 = 255 - n % 256 by omega]

theorem digs_up64 (n : Int) (h0 : -9223372036854775808 ≤ n) (h1 : n < 0) : digs 8 n = be8 (up64 n) := by
  rw [← digs8 (up64 n) (up64_bd n).1 (up64_bd n).2]
  have : up64 n = n + 18446744073709551616 := by unfold up64; omega
  rw [this]
  simp only [digs, List.nil_append, List.cons_append, List.cons.injEq, and_true]
  omega

theorem flip_nth (zs : List Int) (k : Nat) (hk : k < zs.length) (ds : List Int) (h : ∀ j, j < zs.length → zs.getD j 0 = if j < k then 255 - ds.getD j 0 else ds.getD j 0) :
    ∀ j, j < (zs.set k (255 - ds.getD k 0)).length → (zs.set k (255 - ds.getD k 0)).getD j 0 = if j < k + 1 then 255 - ds.getD j 0 else ds.getD j 0 := by
  intro j hj
  simp at hj
  rw [nth_set zs k j _ hk]
  by_cases e : j = k
  · rw [if_pos e, if_pos (by omega), e]
  · rw [if_neg e, h j hj]
    by_cases e2 : j < k
    · rw [if_pos e2, if_pos (by omega)]
    · rw [if_neg e2, if_neg (by omega)]

set_option maxHeartbeats 1000000 in
theorem refInt64_any (n : Int) (w : World) (h0 : -9223372036854775808 ≤ n) (h1 : n ≤ 9223372036854775807) :
    Calls Tryz.prog 103 #[.int .i64 n] w fun e w' => ∃ v', e = .returned v' ∧ Owns w' w.heap.size v' (be8 (up64 n)) ∧ Below w.heap.size w w' := by
  by_cases hn : 0 ≤ n
  · have hd : Hid (digs 8 n = be8 (up64 n)) := by
      have : up64 n = n := by unfold up64; omega
      show _ = _
      rw [this]; exact digs8 _ (by omega) (by omega)
    go_enter Tryz.func103, Tryz.ntmps103
    go_wp2_with fail
    refine (digits_any n 8 _ (by omega) (by omega) (by omega)).mono ?_
    rintro e w1 ⟨v, rfl, hp⟩
    rw [hd.out] at hp
    have HP : Hid (Owns w1 w.heap.size v (be8 (up64 n)) ∧ Below w.heap.size w w1) := hp
    clear hp
    go_wp2
    go_ret
    exact ⟨_, rfl, HP.out⟩
  · have hd : Hid (digs 8 n = be8 (up64 n)) := digs_up64 n h0 (by omega)
    have HF : Hid ((digs 8 (-1 - n)).map (fun x => 255 - x) = digs 8 n) := by
      have := flip_digs 8 (-1 - n)
      rw [show -1 - (-1 - n) = n by omega] at this
      exact this
    have HDB : Hid (Byts (digs 8 (-1 - n))) := digs_byts _ _
    have HDL : Hid ((digs 8 (-1 - n)).length = 8) := digs_len _ _
    go_enter Tryz.func103, Tryz.ntmps103
    go_wp2_with fail
    refine (digits_any (-1 - n) 8 _ (by omega) (by omega) (by omega)).mono ?_
    rintro e w1 ⟨v, rfl, ho, hbel⟩
    generalize digs 8 (-1 - n) = ds at *
    obtain ⟨g, c, hv, hg⟩ := owns_some ho (by rw [HDL.out]; omega)
    rw [HDL.out] at hv
    subst hv
    have HP : Hid (Owns w1 w.heap.size (.slice (some ⟨g, 0, none⟩) 8 c) ds ∧ Below w.heap.size w w1) := ⟨ho, hbel⟩
    clear ho hbel
    go_wp2
    go_loopw [4] (fun i wr => ∃ (k : Nat) (zs : List Int), k ≤ 8 ∧ i = .int .i64 k ∧ zs.length = 8 ∧ Owns wr w.heap.size (.slice (some ⟨g, 0, none⟩) 8 c) zs ∧ (∀ j, j < zs.length → zs.getD j 0 = if j < k then 255 - ds.getD j 0 else ds.getD j 0) ∧ Below w.heap.size w wr) (fun i _ => 8 - (intOf i).toNat)
    case atStart => exact ⟨0, ds, by omega, rfl, HDL.out, HP.out.1, fun j hj => by simp, HP.out.2⟩
    case round =>
      clear HP
      obtain ⟨k, zs, hk, rfl, hzl, hown, hpt, hbel⟩ := hrel
      have HZ : Hid (zs.length = 8 ∧ Owns wr w.heap.size (.slice (some ⟨g, 0, none⟩) zs.length c) zs ∧ (∀ j, j < zs.length → zs.getD j 0 = if j < k then 255 - ds.getD j 0 else ds.getD j 0) ∧ Below w.heap.size w wr) := ⟨hzl, by rw [hzl]; exact hown, hpt, hbel⟩
      clear hown hpt hbel hzl
      by_cases hlt : k < 8
      · have hcz := owns_cell HZ.out.2.1 k (by rw [HZ.out.1]; omega)
        rw [HZ.out.2.2.1 k (by rw [HZ.out.1]; omega), if_neg (by omega)] at hcz
        have hfz := HZ.out.2.1.frozenAt k
        have hx := HDB.out.nth k
        have HN := flip_nth zs k (by rw [HZ.out.1]; omega) ds HZ.out.2.2.1
        have HN' : Hid _ := HN
        have HS : Hid (Owns (wr.setCell ⟨g, k, none⟩ (.int .u8 (255 - ds.getD k 0))) w.heap.size (.slice (some ⟨g, 0, none⟩) (zs.set k (255 - ds.getD k 0)).length c) (zs.set k (255 - ds.getD k 0))) := (owns_set HZ.out.2.1 k (255 - ds.getD k 0)).1
        clear HN
        generalize ds.getD k 0 = x at *
        go_wp2
        have z2 := HS.out
        rw [List.length_set, HZ.out.1] at z2
        have R3 : Below w.heap.size w (wr.setCell ⟨g, k, none⟩ (.int .u8 (255 - x))) := HZ.out.2.2.2.setCell hg _
        go_roundw
        case rel => exact ⟨k + 1, zs.set k (255 - x), by omega, by go_num, by rw [List.length_set]; exact HZ.out.1, z2, HN'.out, R3⟩
        case measure => simp [intOf]; omega
      · have he : zs = be8 (up64 n) := by
          rw [← hd.out, ← HF.out]
          refine list_of_nths (by rw [List.length_map, HZ.out.1, HDL.out]) (fun j hj => ?_)
          rw [HZ.out.2.2.1 j hj, if_pos (by have := HZ.out.1; omega)]
          have hj' : j < ds.length := by have := HZ.out.1; have := HDL.out; omega
          simp [List.getD_eq_getElem?_getD, hj']
        have z2 := HZ.out.2.1
        rw [HZ.out.1, he] at z2
        have HR : Hid (Owns wr w.heap.size (.slice (some ⟨g, 0, none⟩) 8 c) (be8 (up64 n)) ∧ Below w.heap.size w wr) := ⟨z2, HZ.out.2.2.2⟩
        clear z2 he HZ
        go_wp2
        go_ret
        exact ⟨_, rfl, HR.out⟩

end Go.Proofs.YtdbphdllibffnaaGreat

/- What the statements' own first look 'lives' answers: true; nothing that was there before is changed. -/
namespace Go.Proofs.YtdbphdllibffnaaGreat
open Go.RowKit
set_option maxRecDepth 8000

end Go.Proofs.YtdbphdllibffnaaGreat

/- What the document's own answers for layer 3 are: its Sum, the four bytes of a number, a body's frame, Put. -/
namespace Go.Proofs.YtdbphdllibffnaaGreat
open Go.RowKit
set_option maxRecDepth 8000

theorem ofInt_i64 (a : Nat) (ha : a < 9223372036854775808) : (BitVec.ofInt 64 (a : Int)).toNat = a := by
  rw [BitVec.ofInt_natCast, BitVec.toNat_ofNat]; exact Nat.mod_eq_of_lt (by omega)
theorem i64_or (a b : Int) (h1 : 0 ≤ a) (h2 : a < 4611686018427387904) (h3 : 0 ≤ b) (h4 : b < 4611686018427387904) : bits .or .i64 a b = ((a.toNat ||| b.toNat : Nat) : Int) := by
  obtain ⟨A, rfl⟩ := Int.eq_ofNat_of_zero_le h1
  obtain ⟨B, rfl⟩ := Int.eq_ofNat_of_zero_le h3
  have hx : A ||| B < 2 ^ 62 := Nat.or_lt_two_pow (by omega) (by omega)
  show IntKind.i64.wrap ((BitVec.ofInt 64 (A : Int) ||| BitVec.ofInt 64 (B : Int)).toNat : Int) = _
  rw [BitVec.toNat_or, ofInt_i64 A (by omega), ofInt_i64 B (by omega)]
  simp only [Int.toNat_natCast]
  simp [IntKind.wrap, IntKind.bits, IntKind.signed]
  omega

theorem adler_i64 (xs : List Int) : bits .or .i64 ((adl xs).2 * 65536) (adl xs).1 = adler xs := by
  have h := adl_bd xs
  rw [i64_or _ _ (by omega) (by omega) (by omega) (by omega), nat_join 16 _ _ (by omega) (by omega)]
  unfold adler; omega

set_option maxHeartbeats 400000 in
theorem refSum3_any (v : Value) (xs : List Int) (w : World) (h : Sees w v xs) (hb : Byts xs) :
    Calls Tryz.prog 126 #[v] w fun e w' => e = .returned (.int .i64 (adler xs)) ∧ w' = w := by
  obtain ⟨ao, cap, rfl, hlc, hcm, _, h3⟩ := h
  unfold maxLen at hcm
  go_enter Tryz.func126, Tryz.ntmps126
  go_wp2
  go_loop [3, 4, 5] (fun lo hi i => ∃ k : Nat, k ≤ xs.length ∧ i = .int .i64 k ∧ lo = .int .i64 (adl (xs.take k)).1 ∧ hi = .int .i64 (adl (xs.take k)).2) (fun _ _ i => xs.length - (intOf i).toNat)
  case atStart => exact ⟨0, Nat.zero_le _, rfl, rfl, rfl⟩
  case round =>
    obtain ⟨k, hk, rfl, rfl, rfl⟩ := hrel
    have hd := adl_bd (xs.take k)
    by_cases hlt : k < xs.length
    · rcases h3 with h3 | ⟨b, off, rfl, h3⟩
      · subst h3; simp at hlt
      · have hc := h3 k hlt
        have hx := hb.nth k
        have HS : Hid _ := adl_next xs k hlt
        generalize xs.getD k 0 = x at *
        generalize hA : (adl (xs.take k)).1 = A at *
        generalize hB : (adl (xs.take k)).2 = B at *
        clear hA hB h3 hb
        go_wp2
        go_round
        case rel => exact ⟨k + 1, by omega, by go_num, by rw [HS.out.1], by rw [HS.out.2]⟩
        case measure => simp [intOf]; omega
    · obtain rfl : k = xs.length := by omega
      rw [List.take_length] at *
      have HA : Hid _ := adler_i64 xs
      go_wp2
      go_ret
      exact ⟨ret_int HA.out, rfl⟩

set_option maxHeartbeats 400000 in
theorem four_any (n : Int) (w : World) (h0 : 0 ≤ n) (h1 : n < 4294967296) :
    Calls Tryz.prog 125 #[.int .i64 n] w fun e w' => ∃ v, e = .returned v ∧ Owns w' w.heap.size v (be4 n) ∧ Below w.heap.size w w' := by
  go_enter Tryz.func125, Tryz.ntmps125
  go_wp2
  go_ret
  exact ⟨_, rfl, World.ownsRow_lit w _ 4 (Nat.le_refl _) (by unfold maxLen; omega) rfl, (Below.refl _ _).alloc (Nat.le_refl _) _⟩

/-- One byte more on a list of the call's own: what is known behind it. -/
theorem app_one {B : Nat} {w wr w1 : World} {v : Value} {F : List Int} {x : Int} {g c : Nat} {o : Obj} (hbel : Below B w wr) (hB : B ≤ wr.heap.size) (hown : Owns wr B v F)
    (hown' : w1.ownsRow B 5 1 (.slice (some ⟨g, 0, none⟩) (F.length + 1) c) (F.length + 1) (F.map (Value.int .u8) ++ [.int .u8 x])) (hgrow : (wr.alloc o).grownBy w1 v.ownBlock) :
    Owns w1 B (.slice (some ⟨g, 0, none⟩) (F ++ [x]).length c) (F ++ [x]) ∧ Below B w w1 ∧ Kept wr w1 (fun k => v.ownBlock = some k) := by
  have k1 : Kept wr w1 (fun k => v.ownBlock = some k) := ((Kept.refl wr _).alloc o).grown hgrow (fun _ _ e => e)
  refine ⟨by simpa [Owns] using hown', hbel.trans (k1.below hB (fun k e => (hown.lt k e).1)), k1⟩

set_option maxHeartbeats 1000000 in
theorem refFrame_any (v : Value) (xs : List Int) (w : World) (h : Sees w v xs) (hb : Byts xs) (hl : xs.length ≤ 1048576) :
    Calls Tryz.prog 104 #[v] w fun e w' => ∃ u, e = .returned u ∧ Owns w' w.heap.size u (frameL xs) ∧ Below w.heap.size w w' := by
  have H : Hid (Sees w v xs ∧ Byts xs) := ⟨h, hb⟩
  obtain ⟨ao, cap, rfl, g1, g2, g0, g3⟩ := h
  unfold maxLen at g2
  have ha := adler_bd xs
  have ha1 := ha.1
  have ha2 := ha.2
  obtain ⟨b0, hbi, bz0, bz1, bz2⟩ := info_parts Tryz.infoByte
  clear g0 hb ha
  go_enter Tryz.func104, Tryz.ntmps104
  go_wp2_with fail
  refine (four_any xs.length _ (by omega) (by omega)).mono ?_
  rintro e w1 ⟨f, rfl, hf, hb1⟩
  have H1 : Hid (Owns w1 w.heap.size f (be4 xs.length) ∧ Below w.heap.size w w1) := ⟨hf, hb1⟩
  clear hf hb1
  go_wp2_with fail
  refine (refSum3_any _ xs _ (H.out.1.below H1.out.2 (Nat.le_refl _)) H.out.2).mono ?_
  rintro e w2 ⟨rfl, rfl⟩
  go_wp2_with fail
  refine (four_any (adler xs) _ ha1 ha2).mono ?_
  rintro e w3 ⟨s, rfl, hs, hb3⟩
  obtain ⟨gs, cs, hse, hgs⟩ := owns_some hs (by simp [be4])
  subst hse
  have H3 : Hid (Owns w3 w.heap.size f (be4 xs.length) ∧ Owns w3 0 (.slice (some ⟨gs, 0, none⟩) 4 cs) (be4 (adler xs)) ∧ f.ownBlock ≠ some gs ∧ Below w.heap.size w w3) := by
    refine ⟨Owns.kept H1.out.1 (Below.kept hb3) (fun k hk => by have := rows_lt H1.out.1 hk; omega), owns_mono hs (Nat.zero_le _), fun e => ?_, H1.out.2.trans (hb3.mono H1.out.2.size)⟩
    have := rows_lt H1.out.1 e
    omega
  have h4 : (be4 (adler xs)).length = 4 := rfl
  rw [h4]
  clear hs hb3 H1 hgs h4
  go_wp2_with fail
  go_loopw [3, 5] (fun f i wr => ∃ k : Nat, k ≤ 4 ∧ i = .int .i64 k ∧ Owns wr w.heap.size f (be4 xs.length ++ (be4 (adler xs)).take k) ∧ Owns wr 0 (.slice (some ⟨gs, 0, none⟩) 4 cs) (be4 (adler xs)) ∧ f.ownBlock ≠ some gs ∧ Below w.heap.size w wr) (fun _ i _ => 4 - (intOf i).toNat)
  case atStart => exact ⟨0, Nat.zero_le _, rfl, by rw [List.take_zero, List.append_nil]; exact H3.out.1, H3.out.2⟩
  case round =>
    obtain ⟨k, hk, rfl, i1, i2, i3, i4⟩ := hrel
    by_cases hlt : k < 4
    · have dk : decide ((k : Int) < 4) = true := by simp only [decide_eq_true_eq]; omega
      have h4 : (be4 (adler xs)).length = 4 := rfl
      have hc := owns_cell i2 k (by rw [h4]; exact hlt)
      have HN : Hid _ := take_next (be4 (adler xs)) k (by rw [h4]; exact hlt)
      have HI : Hid (Owns wr w.heap.size u3 (be4 xs.length ++ (be4 (adler xs)).take k) ∧ Owns wr 0 (.slice (some ⟨gs, 0, none⟩) 4 cs) (be4 (adler xs)) ∧ u3.ownBlock ≠ some gs ∧ Below w.heap.size w wr) := ⟨i1, i2, i3, i4⟩
      have hln : (be4 xs.length ++ (be4 (adler xs)).take k).length = 4 + k := by simp [be4]; omega
      have HLN : Hid ((be4 xs.length ++ (be4 (adler xs)).take k).length = 4 + k) := hln
      clear i1 i2 i3 i4 h4 hln H3 g3
      generalize (be4 (adler xs)).getD k 0 = x at *
      obtain ⟨F, hF⟩ : ∃ F, F = be4 xs.length ++ (be4 (adler xs)).take k := ⟨_, rfl⟩
      have HF : Hid (F = be4 xs.length ++ (be4 (adler xs)).take k) := hF
      rw [← hF] at HI HLN
      clear hF
      go_wp2_with (at_builtin; refine wpList_append_lies _ rfl _ _ 36 rfl w.heap.size 5 b0 (.int .u8 0) 1 1 Tryz.underlying36 hbi bz0 bz1 bz2 rfl (by decide) _ F.length (F.map (Value.int .u8)) rfl (HI.out.1.alloc _) ⟨wr.heap.size, 0, none⟩ 1 1 [.int .u8 x] rfl rfl (cell_one_new _ _ _) (by simp [Value.oneCell']) (by decide) (by rw [HLN.out]; unfold maxLen; omega) (by rw [HLN.out]; omega) (by have := HI.out.2.2.2.size; simp; omega) (wr.heap.size + 1) (by simp) ?_)
      intro gi ci w5 hown5 hgrow5 hlies5 _
      obtain ⟨o5, b5, k5⟩ := app_one HI.out.2.2.2 HI.out.2.2.2.size HI.out.1 hown5 hgrow5
      have H5 : Hid (Owns w5 w.heap.size (.slice (some ⟨gi, 0, none⟩) (F.length + 1) ci) (be4 xs.length ++ (be4 (adler xs)).take (k + 1)) ∧ Owns w5 0 (.slice (some ⟨gs, 0, none⟩) 4 cs) (be4 (adler xs)) ∧ (Value.slice (some ⟨gi, 0, none⟩) (F.length + 1) ci).ownBlock ≠ some gs ∧ Below w.heap.size w w5) := by
        refine ⟨?_, Owns.kept HI.out.2.1 k5 (fun k e e' => ?_), fun e => ?_, b5⟩
        · rw [HN.out, ← List.append_assoc, ← HF.out]
          have := o5
          rw [List.length_append] at this
          exact this
        · simp [Value.ownBlock] at e
          subst e
          exact HI.out.2.2.1 e'
        · simp [Value.ownBlock] at e
          have hgl : gs < wr.heap.size := rows_lt HI.out.2.1 rfl
          rcases hlies5 with h | h
          · rw [e] at h; exact HI.out.2.2.1 h
          · omega
      clear o5 b5 k5 hown5 hgrow5 hlies5 HI hc
      go_wp2
      go_roundw
      case rel => exact ⟨k + 1, by omega, by go_num, H5.out⟩
      case measure => simp [intOf]; omega
    · have dk : decide ((k : Int) < 4) = false := by simp only [decide_eq_false_iff_not]; omega
      have h4 : (be4 (adler xs)).length = 4 := rfl
      have HI : Hid (Owns wr w.heap.size u3 (headL xs) ∧ Below w.heap.size w wr) := by
        refine ⟨?_, i4⟩
        rw [List.take_of_length_le (by rw [h4]; omega)] at i1
        exact i1
      clear i1 i2 i3 i4 h4 H3
      go_wp2_with fail
      go_loopw [3, 6] (fun f i wr => ∃ k : Nat, k ≤ xs.length ∧ i = .int .i64 k ∧ Owns wr w.heap.size f (headL xs ++ xs.take k) ∧ Below w.heap.size w wr) (fun _ i _ => xs.length - (intOf i).toNat)
      case atStart => exact ⟨0, Nat.zero_le _, rfl, by rw [List.take_zero, List.append_nil]; exact HI.out.1, HI.out.2⟩
      case round =>
        obtain ⟨j, hj, rfl, i1, i2⟩ := hrel
        by_cases hjl : j < xs.length
        · have dj : decide ((j : Int) < xs.length) = true := by simp only [decide_eq_true_eq]; omega
          rcases g3 with g3 | ⟨b, off, rfl, g3⟩
          · subst g3; simp at hjl
          · have hc := cell_later (g3 j hjl) i2 (Nat.le_refl _)
            have HN : Hid _ := take_next xs j hjl
            have hln : (headL xs ++ xs.take j).length = 8 + j := by rw [List.length_append, headL_len, List.length_take]; omega
            have HLN : Hid ((headL xs ++ xs.take j).length = 8 + j) := hln
            have HJ : Hid (Owns wr w.heap.size u3 (headL xs ++ xs.take j) ∧ Below w.heap.size w wr) := ⟨i1, i2⟩
            clear i1 i2 hln g3
            generalize xs.getD j 0 = x at *
            obtain ⟨F, hF⟩ : ∃ F, F = headL xs ++ xs.take j := ⟨_, rfl⟩
            have HF : Hid (F = headL xs ++ xs.take j) := hF
            rw [← hF] at HJ HLN
            clear hF
            go_wp2_with (at_builtin; refine wpList_append_lies _ rfl _ _ 36 rfl w.heap.size 5 b0 (.int .u8 0) 1 1 Tryz.underlying36 hbi bz0 bz1 bz2 rfl (by decide) _ F.length (F.map (Value.int .u8)) rfl (HJ.out.1.alloc _) ⟨wr.heap.size, 0, none⟩ 1 1 [.int .u8 x] rfl rfl (cell_one_new _ _ _) (by simp [Value.oneCell']) (by decide) (by rw [HLN.out]; unfold maxLen; omega) (by rw [HLN.out]; omega) (by have := HJ.out.2.size; simp; omega) (wr.heap.size + 1) (by simp) ?_)
            intro gi ci w5 hown5 hgrow5 _ _
            obtain ⟨o5, b5, _⟩ := app_one HJ.out.2 HJ.out.2.size HJ.out.1 hown5 hgrow5
            have H5 : Hid (Owns w5 w.heap.size (.slice (some ⟨gi, 0, none⟩) (F.length + 1) ci) (headL xs ++ xs.take (j + 1)) ∧ Below w.heap.size w w5) := by
              refine ⟨?_, b5⟩
              rw [HN.out, ← List.append_assoc, ← HF.out]
              have := o5
              rw [List.length_append] at this
              exact this
            clear o5 b5 hown5 hgrow5 HJ hc
            go_wp2
            go_roundw
            case rel => exact ⟨j + 1, by omega, by go_num, H5.out⟩
            case measure => simp [intOf]; omega
        · have dj : decide ((j : Int) < xs.length) = false := by simp only [decide_eq_false_iff_not]; omega
          have HJ : Hid (Owns wr w.heap.size u3 (headL xs ++ xs) ∧ Below w.heap.size w wr) := by
            refine ⟨?_, i2⟩
            rw [List.take_of_length_le (by omega)] at i1
            exact i1
          have hln : (headL xs ++ xs).length = 8 + xs.length := by rw [List.length_append, headL_len]
          have HLN : Hid ((headL xs ++ xs).length = 8 + xs.length) := hln
          clear i1 i2 hln g3
          obtain ⟨F, hF⟩ : ∃ F, F = headL xs ++ xs := ⟨_, rfl⟩
          have HF : Hid (F = headL xs ++ xs) := hF
          rw [← hF] at HJ HLN
          clear hF
          go_wp2_with (at_builtin; refine wpList_append_lies _ rfl _ _ 36 rfl w.heap.size 5 b0 (.int .u8 0) 1 1 Tryz.underlying36 hbi bz0 bz1 bz2 rfl (by decide) _ F.length (F.map (Value.int .u8)) rfl (HJ.out.1.alloc _) ⟨wr.heap.size, 0, none⟩ 1 1 [.int .u8 66] rfl rfl (cell_one_new _ _ _) (by simp [Value.oneCell']) (by decide) (by rw [HLN.out]; unfold maxLen; omega) (by rw [HLN.out]; omega) (by have := HJ.out.2.size; simp; omega) (wr.heap.size + 1) (by simp) ?_)
          intro gi ci w5 hown5 hgrow5 _ _
          obtain ⟨o5, b5, _⟩ := app_one HJ.out.2 HJ.out.2.size HJ.out.1 hown5 hgrow5
          have H5 : Hid (Owns w5 w.heap.size (.slice (some ⟨gi, 0, none⟩) (F.length + 1) ci) (frameL xs) ∧ Below w.heap.size w w5) := by
            refine ⟨?_, b5⟩
            have e : frameL xs = F ++ [66] := by rw [HF.out]; unfold frameL; rw [List.append_assoc]
            rw [e]
            have := o5
            rw [List.length_append] at this
            exact this
          clear o5 b5 hown5 hgrow5 HJ
          go_wp2
          go_ret
          exact ⟨_, rfl, H5.out⟩

end Go.Proofs.YtdbphdllibffnaaGreat
