/- The eight bytes of a whole number; no Go function is walked here. -/
import Derived.Test.YtiakjeomedijkaaGreatDoorWriterJ
import Derived.Test.YtiakjeomedijkaaGreatDoorProg
namespace Go.Proofs.YtiakjeomedijkaaGreatDoor

/-- The eight bytes of a number from 0 on. -/
def be8 (n : Int) : List Int := be4 (n / 4294967296) ++ be4 (n % 4294967296)

def up64 (n : Int) : Int := n % 18446744073709551616
theorem up64_bd (n : Int) : 0 ≤ up64 n ∧ up64 n ≤ 18446744073709551615 := by unfold up64; omega

end Go.Proofs.YtiakjeomedijkaaGreatDoor

/- What CopyBytes of lagoonref00 answers: the same bytes in a row of its own. -/
namespace Go.Proofs.YtiakjeomedijkaaGreatDoor
open Go.RowKit
set_option maxRecDepth 8000

theorem Tryz.infoByte : (Tryz.prog.info? 5).map (fun i => (i.zero, i.size, i.bytes)) = some (some (.int .u8 0), 1, 1) := by kernel_rfl

/-- One round of an append of one byte: what is owned, and that old memory stays. -/
theorem app_rel {B : Nat} {w wr w1 : World} {v v' : Value} {xs : List Int} {x : Int} (hBw : B ≤ wr.heap.size) (hown : Owns wr B v xs) (hbel : Below B w wr) {o : Obj}
    (hown' : w1.ownsRow B 5 1 v' (xs.length + 1) (xs.map (Value.int .u8) ++ [.int .u8 x])) (hgrow : (wr.alloc o).grownBy w1 v.ownBlock) :
    Owns w1 B v' (xs ++ [x]) ∧ Below B w w1 ∧ B ≤ w1.heap.size := by
  refine ⟨by simpa [Owns] using hown', ?_, ?_⟩
  · exact ((hbel.alloc hBw o).grown hgrow (by simp; omega) (fun k hk => (hown.lt k hk).1))
  · have := hgrow.size; simp at this; omega

theorem made_owns {w : World} {g n : Nat} (h : w.ownsRow g 5 1 (.slice (some ⟨g, 0, none⟩) n n) n (madeCells #[Value.int .u8 0] n).toList) : Owns w g (.slice (some ⟨g, 0, none⟩) (List.replicate n (0 : Int)).length n) (List.replicate n 0) := by
  have e : (madeCells #[Value.int .u8 0] n).toList = (List.replicate n (0 : Int)).map (Value.int .u8) := by
    rw [toList_madeCells_one]; simp
  rw [e] at h
  simpa [Owns] using h

end Go.Proofs.YtiakjeomedijkaaGreatDoor

/- What the document's own bytes of whole numbers are: digits and Int32 of lagoonref01. -/
namespace Go.Proofs.YtiakjeomedijkaaGreatDoor
open Go.RowKit
set_option maxRecDepth 8000

/-- The lowest m digits to the base 256, the highest first. -/
def digs : Nat → Int → List Int
  | 0, _ => []
  | m + 1, n => digs m (n / 256) ++ [n % 256]

theorem digs_len (m : Nat) (n : Int) : (digs m n).length = m := by
  induction m generalizing n with
  | zero => rfl
  | succ m ih => simp [digs, ih]

theorem digs_byts (m : Nat) (n : Int) : Byts (digs m n) := by
  induction m generalizing n with
  | zero => intro x hx; simp [digs] at hx
  | succ m ih =>
    refine (ih _).append ?_
    intro x hx
    simp at hx
    omega

theorem digs4 (n : Int) (h0 : 0 ≤ n) (h1 : n < 4294967296) : digs 4 n = be4 n := by
  simp only [digs, be4, List.nil_append, List.cons_append, List.cons.injEq, and_true]
  omega

theorem digs8 (n : Int) (h0 : 0 ≤ n) (h1 : n ≤ 18446744073709551615) : digs 8 n = be8 n := by
  simp only [digs, be8, be4, List.nil_append, List.cons_append, List.cons.injEq, and_true]
  omega

theorem drop_set {zs : List Int} {k : Nat} (x : Int) (hk : k < zs.length) : (zs.set k x).drop k = x :: zs.drop (k + 1) := by
  rw [List.drop_eq_getElem_cons (by simpa using hk), List.drop_set_of_lt (by omega)]
  simp

set_option maxHeartbeats 400000 in
theorem digits_any (n : Int) (m : Nat) (w : World) (hm : m ≤ 8) (h0 : 0 ≤ n) (h1 : n ≤ 18446744073709551615) :
    Calls Tryz.prog 110 #[.int .u64 n, .int .i64 m] w fun e w' => ∃ v', e = .returned v' ∧ Owns w' w.heap.size v' (digs m n) ∧ Below w.heap.size w w' := by
  obtain ⟨i0, hi, hz0, hz1, hz2⟩ := info_parts Tryz.infoByte
  go_enter Tryz.func110, Tryz.ntmps110
  go_wp2_with (at_make; refine wpList_make_full _ rfl _ _ 26 rfl w.heap.size 5 i0 (.int .u8 0) 1 Tryz.underlying26 hi hz0 hz1 .i64 .i64 _ _ m rfl rfl (by omega) (by omega) (by rw [hz2]; omega) (by unfold maxLen; omega) (Nat.le_refl _) ?_)
  intro w0 hown0 hgrow0
  have hown1 := made_owns hown0
  have hbel0 : Below w.heap.size w w0 := (Below.refl _ _).grown hgrow0 (Nat.le_refl _) (fun k hk => by simp at hk)
  have HO1 : Hid (Owns w0 w.heap.size (.slice (some ⟨w.heap.size, 0, none⟩) (List.replicate m (0 : Int)).length m) (List.replicate m 0)) := hown1
  clear hown0 hgrow0 hown1
  go_wp2
  go_loopw [0, 6] (fun q i wr => ∃ (k : Nat) (c : Int) (zs : List Int), k ≤ m ∧ 0 ≤ c ∧ c ≤ 18446744073709551615 ∧ q = .int .u64 c ∧ i = .int .i64 (k - 1) ∧ zs.length = m ∧ Owns wr w.heap.size (.slice (some ⟨w.heap.size, 0, none⟩) zs.length m) zs ∧ digs m n = digs k c ++ zs.drop k ∧ Below w.heap.size w wr) (fun _ i _ => (intOf i + 1).toNat)
  case atStart => exact ⟨m, n, _, Nat.le_refl _, h0, h1, rfl, by go_num, by simp, HO1.out, by simp, hbel0⟩
  case round =>
    clear HO1 hbel0 w0
    obtain ⟨k, c, zs, hk, hc0, hc1, rfl, rfl, hzl, hown, hd, hbel⟩ := hrel
    have HZ : Hid (zs.length = m ∧ Owns wr w.heap.size (.slice (some ⟨w.heap.size, 0, none⟩) zs.length m) zs ∧ digs m n = digs k c ++ zs.drop k ∧ Below w.heap.size w wr) := ⟨hzl, hown, hd, hbel⟩
    clear hd hzl hbel
    cases k with
    | zero =>
      clear hown
      go_wp2
      go_ret
      obtain ⟨z1, z2, z3, z4⟩ := HZ.out
      have e : digs m n = zs := by rw [z3]; simp [digs]
      rw [z1] at z2
      exact ⟨_, rfl, by rw [e]; exact z2, z4⟩
    | succ k =>
      have e : ((k + 1 : Nat) : Int) - 1 = k := by omega
      rw [e]
      clear e
      have hcz := owns_cell hown k (by rw [HZ.out.1]; omega)
      have hfz := hown.frozenAt k
      clear hown
      go_wp2
      obtain ⟨z1, z2, z3, z4⟩ := HZ.out
      have R := owns_set z2 k (c % 256)
      have R2 : digs m n = digs k (c / 256) ++ (zs.set k (c % 256)).drop k := by
        rw [drop_set _ (by omega), z3]; simp [digs]
      have R3 : Below w.heap.size w (wr.setCell ⟨w.heap.size, k, none⟩ (.int .u8 (c % 256))) := z4.setCell (Nat.le_refl _) _
      go_roundw
      case rel => exact ⟨k, c / 256, zs.set k (c % 256), by omega, by omega, by omega, rfl, by go_num, by simpa using z1, R.1, R2, R3⟩
      case measure => simp [intOf]

end Go.Proofs.YtiakjeomedijkaaGreatDoor

/- What the document's own bytes of an int64 are: Int64 of lagoonref01. -/
namespace Go.Proofs.YtiakjeomedijkaaGreatDoor
open Go.RowKit
set_option maxRecDepth 8000

/-- The loop of lagoonref01.Int64 below 0 takes each digit from 255. -/
theorem flip_digs (m : Nat) (n : Int) : (digs m n).map (fun x => 255 - x) = digs m (-1 - n) := by
  induction m generalizing n with
  | zero => rfl
  | succ m ih =>
    simp only [digs, List.map_append, ih, List.map_cons, List.map_nil]
    rw [show (-1 - n) / 256 = -1 - n / 256 by omega, show (-1 - n) % 256 = 255 - n % 256 by omega]

theorem digs_up64 (n : Int) (h0 : -9223372036854775808 ≤ n) (h1 : n < 0) : digs 8 n = be8 (up64 n) := by
  rw [← digs8 (up64 n) (up64_bd n).1 (up64_bd n).2]
  have : up64 n = n + 18446744073709551616 := by unfold up64; omega
  rw [this]
  simp only [digs, List.nil_append, List.cons_append, List.cons.injEq, and_true]
  omega

theorem flip_nth (zs : List Int) (k : Nat) (hk : k < zs.length) (ds : List Int) (h : ∀ j, j < zs.length → zs.getD j 0 = if j < k then 255 - ds.getD j 0 else ds.getD j 0) :
    ∀ j, j < (zs.set k (255 - ds.getD k 0)).length → (zs.set k (255 - ds.getD k 0)).getD j 0 = if j < k + 1 then 255 - ds.getD j 0 else ds.getD j 0 := by
  intro j hj
  simp at hj
  rw [nth_set zs k j _ hk]
  by_cases e : j = k
  · rw [if_pos e, if_pos (by omega), e]
  · rw [if_neg e, h j hj]
    by_cases e2 : j < k
    · rw [if_pos e2, if_pos (by omega)]
    · rw [if_neg e2, if_neg (by omega)]

set_option maxHeartbeats 1000000 in
theorem refInt64_any (n : Int) (w : World) (h0 : -9223372036854775808 ≤ n) (h1 : n ≤ 9223372036854775807) :
    Calls Tryz.prog 61 #[.int .i64 n] w fun e w' => ∃ v', e = .returned v' ∧ Owns w' w.heap.size v' (be8 (up64 n)) ∧ Below w.heap.size w w' := by
  by_cases hn : 0 ≤ n
  · have hd : Hid (digs 8 n = be8 (up64 n)) := by
      have : up64 n = n := by unfold up64; omega
      show _ = _
      rw [this]; exact digs8 _ (by omega) (by omega)
    go_enter Tryz.func61, Tryz.ntmps61
    go_wp2_with fail
    refine (digits_any n 8 _ (by omega) (by omega) (by omega)).mono ?_
    rintro e w1 ⟨v, rfl, hp⟩
    rw [hd.out] at hp
    have HP : Hid (Owns w1 w.heap.size v (be8 (up64 n)) ∧ Below w.heap.size w w1) := hp
    clear hp
    go_wp2
    go_ret
    exact ⟨_, rfl, HP.out⟩
  · have hd : Hid (digs 8 n = be8 (up64 n)) := digs_up64 n h0 (by omega)
    have HF : Hid ((digs 8 (-1 - n)).map (fun x => 255 - x) = digs 8 n) := by
      have := flip_digs 8 (-1 - n)
      rw [show -1 - (-1 - n) = n by omega] at this
      exact this
    have HDB : Hid (Byts (digs 8 (-1 - n))) := digs_byts _ _
    have HDL : Hid ((digs 8 (-1 - n)).length = 8) := digs_len _ _
    go_enter Tryz.func61, Tryz.ntmps61
    go_wp2_with fail
    refine (digits_any (-1 - n) 8 _ (by omega) (by omega) (by omega)).mono ?_
    rintro e w1 ⟨v, rfl, ho, hbel⟩
    generalize digs 8 (-1 - n) = ds at *
    obtain ⟨g, c, hv, hg⟩ := owns_some ho (by rw [HDL.out]; omega)
    rw [HDL.out] at hv
    subst hv
    have HP : Hid (Owns w1 w.heap.size (.slice (some ⟨g, 0, none⟩) 8 c) ds ∧ Below w.heap.size w w1) := ⟨ho, hbel⟩
    clear ho hbel
    go_wp2
    go_loopw [4] (fun i wr => ∃ (k : Nat) (zs : List Int), k ≤ 8 ∧ i = .int .i64 k ∧ zs.length = 8 ∧ Owns wr w.heap.size (.slice (some ⟨g, 0, none⟩) 8 c) zs ∧ (∀ j, j < zs.length → zs.getD j 0 = if j < k then 255 - ds.getD j 0 else ds.getD j 0) ∧ Below w.heap.size w wr) (fun i _ => 8 - (intOf i).toNat)
    case atStart => exact ⟨0, ds, by omega, rfl, HDL.out, HP.out.1, fun j hj => by simp, HP.out.2⟩
    case round =>
      clear HP
      obtain ⟨k, zs, hk, rfl, hzl, hown, hpt, hbel⟩ := hrel
      have HZ : Hid (zs.length = 8 ∧ Owns wr w.heap.size (.slice (some ⟨g, 0, none⟩) zs.length c) zs ∧ (∀ j, j < zs.length → zs.getD j 0 = if j < k then 255 - ds.getD j 0 else ds.getD j 0) ∧ Below w.heap.size w wr) := ⟨hzl, by rw [hzl]; exact hown, hpt, hbel⟩
      clear hown hpt hbel hzl
      by_cases hlt : k < 8
      · have hcz := owns_cell HZ.out.2.1 k (by rw [HZ.out.1]; omega)
        rw [HZ.out.2.2.1 k (by rw [HZ.out.1]; omega), if_neg (by omega)] at hcz
        have hfz := HZ.out.2.1.frozenAt k
        have hx := HDB.out.nth k
        have HN := flip_nth zs k (by rw [HZ.out.1]; omega) ds HZ.out.2.2.1
        have HN' : Hid _ := HN
        have HS : Hid (Owns (wr.setCell ⟨g, k, none⟩ (.int .u8 (255 - ds.getD k 0))) w.heap.size (.slice (some ⟨g, 0, none⟩) (zs.set k (255 - ds.getD k 0)).length c) (zs.set k (255 - ds.getD k 0))) := (owns_set HZ.out.2.1 k (255 - ds.getD k 0)).1
        clear HN
        generalize ds.getD k 0 = x at *
        go_wp2
        have z2 := HS.out
        rw [List.length_set, HZ.out.1] at z2
        have R3 : Below w.heap.size w (wr.setCell ⟨g, k, none⟩ (.int .u8 (255 - x))) := HZ.out.2.2.2.setCell hg _
        go_roundw
        case rel => exact ⟨k + 1, zs.set k (255 - x), by omega, by go_num, by rw [List.length_set]; exact HZ.out.1, z2, HN'.out, R3⟩
        case measure => simp [intOf]; omega
      · have he : zs = be8 (up64 n) := by
          rw [← hd.out, ← HF.out]
          refine list_of_nths (by rw [List.length_map, HZ.out.1, HDL.out]) (fun j hj => ?_)
          rw [HZ.out.2.2.1 j hj, if_pos (by have := HZ.out.1; omega)]
          have hj' : j < ds.length := by have := HZ.out.1; have := HDL.out; omega
          simp [List.getD_eq_getElem?_getD, hj']
        have z2 := HZ.out.2.1
        rw [HZ.out.1, he] at z2
        have HR : Hid (Owns wr w.heap.size (.slice (some ⟨g, 0, none⟩) 8 c) (be8 (up64 n)) ∧ Below w.heap.size w wr) := ⟨z2, HZ.out.2.2.2⟩
        clear z2 he HZ
        go_wp2
        go_ret
        exact ⟨_, rfl, HR.out⟩

end Go.Proofs.YtiakjeomedijkaaGreatDoor

/- What the Reader's calls of package pack do: what is answered, what is left, and the fault. -/
namespace Go.Proofs.YtiakjeomedijkaaGreatDoor
open Go.RowKit
set_option maxRecDepth 8000

section
variable {w : World} {g : Nat} {v : Value} {xs : List Int} {f : Int}
theorem IsR.kept {w' : World} {S : Nat → Prop} (h : IsR w g v xs f) (hk : Kept w w' S) (hg : ¬ S g) (hn : ∀ k, v.ownBlock = some k → ¬ S k) : IsR w' g v xs f :=
  ⟨hk.heap h.1 hg, h.2.kept hk hn⟩
theorem IsR.c0 (h : IsR w g v xs f) : w.cell? ⟨g, 0, none⟩ = some (.bool true) := by rw [cell_of_row w g 0 _ _ _ h.1]; rfl
theorem IsR.c1 (h : IsR w g v xs f) : w.cell? ⟨g, 1, none⟩ = some v := by rw [cell_of_row w g 1 _ _ _ h.1]; rfl
theorem IsR.c2 (h : IsR w g v xs f) : w.cell? ⟨g, 2, none⟩ = some (.int .i64 f) := by rw [cell_of_row w g 2 _ _ _ h.1]; rfl
theorem IsR.fr (h : IsR w g v xs f) (j : Nat) : w.frozen? ⟨g, j, none⟩ = false := frozen_of_row w g j _ _ h.1

theorem sees_shape (h : Sees w v xs) : ∃ ao n c, v = .slice ao n c := by
  obtain ⟨ao, cap, rfl, _⟩ := h
  exact ⟨_, _, _, rfl⟩

theorem IsR.apart (h : IsR w g v xs f) (hx : xs ≠ []) : v.ownBlock ≠ some g := by
  obtain ⟨h1, h2⟩ := h
  obtain ⟨ao, cap, rfl, g1, g2, g0, g3⟩ := h2
  rcases g3 with g3 | ⟨b, off, rfl, g3⟩
  · exact absurd g3 hx
  · intro e
    simp [Value.ownBlock] at e
    subst e
    have hl : 0 < xs.length := List.length_pos_iff.2 hx
    have := g3 0 hl
    rw [cell_of_row w b _ _ _ _ h1] at this
    match off, this with
    | 0, t => simp at t
    | 1, t => simp at t
    | 2, t => simp at t
    | n + 3, t => simp at t

/-- A slice that is seen stays so while a block changes in which it has no byte. -/
theorem Sees.set (h : Sees w v xs) (a : Addr) (u : Value) (hn : xs ≠ [] → v.ownBlock ≠ some a.block) : Sees (w.setCell a u) v xs := by
  obtain ⟨ao, cap, rfl, g1, g2, g0, g3⟩ := h
  refine ⟨ao, cap, rfl, g1, g2, g0, ?_⟩
  by_cases hx : xs = []
  · exact .inl hx
  · rcases g3 with g3 | ⟨b, off, rfl, g3⟩
    · exact .inl g3
    · refine .inr ⟨b, off, rfl, fun i hi => ?_⟩
      have hb : b ≠ a.block := fun e => hn hx (by simp [Value.ownBlock, e])
      rw [World.cell?_of_block (w := w) (w' := w.setCell a u) (Below.heap_setCell w a u b hb)]
      exact g3 i hi

theorem IsR.fail (h : IsR w g v xs f) (e : Int) : IsR (w.setCell ⟨g, 2, none⟩ (.int .i64 e)) g v xs e := by
  refine ⟨?_, h.2.set _ _ (fun hx => h.apart hx)⟩
  rw [heap_setCell_same w g 2 _ _ _ h.1]; rfl

theorem IsR.turn (h : IsR w g v xs f) {v' : Value} {ys : List Int} (hv : Sees w v' ys) (hap : ys ≠ [] → v'.ownBlock ≠ some g) : IsR (w.setCell ⟨g, 1, none⟩ v') g v' ys f := by
  refine ⟨?_, hv.set _ _ (fun hx => hap hx)⟩
  rw [heap_setCell_same w g 1 _ _ _ h.1]; rfl
end

theorem rErr_any (g : Nat) (v : Value) (xs : List Int) (f : Int) (w : World) (h : IsR w g v xs f) :
    Calls Tryz.prog 92 #[.pointer (some ⟨g, 0, none⟩)] w fun e w' => e = .returned (.int .i64 f) ∧ w' = w := by
  have h0 := h.c0
  have h2 := h.c2
  clear h
  go_enter Tryz.func92, Tryz.ntmps92
  go_wp2
  go_ret
  exact ⟨rfl, rfl⟩

theorem rReads_any (g : Nat) (v : Value) (xs : List Int) (f : Int) (w : World) (h : IsR w g v xs f) :
    Calls Tryz.prog 141 #[.pointer (some ⟨g, 0, none⟩)] w fun e w' => e = .returned (.bool (f == 0)) ∧ w' = w := by
  have H : Hid (IsR w g v xs f) := h
  clear h
  go_enter Tryz.func141, Tryz.ntmps141
  go_wp2_with fail
  refine (rErr_any g v xs f _ H.out).mono ?_
  rintro e w1 ⟨rfl, rfl⟩
  go_wp2
  go_ret
  exact ⟨rfl, rfl⟩

theorem sees_take {w : World} {ao : Option Addr} {xs : List Int} {cap n : Nat} (h : Sees w (.slice ao xs.length cap) xs) (hn : n ≤ xs.length) : Sees w (.slice ao n n) (xs.take n) := by
  obtain ⟨ao', cap', e, g1, g2, g0, g3⟩ := h
  simp at e
  obtain ⟨rfl, rfl⟩ := e
  have hl : (xs.take n).length = n := by simp; omega
  refine ⟨ao, n, by rw [hl], by omega, by omega, fun e => by have := g0 e; omega, ?_⟩
  by_cases hx : n = 0
  · subst hx; exact .inl (by simp)
  · rcases g3 with g3 | ⟨b, off, rfl, g3⟩
    · subst g3; exact .inl (by simp)
    · refine .inr ⟨b, off, rfl, fun i hi => ?_⟩
      rw [g3 i (by omega)]
      have : i < n := by omega
      simp [List.getD_eq_getElem?_getD, this]

set_option maxHeartbeats 400000 in
theorem rPeek_ok (g : Nat) (v : Value) (xs : List Int) (n : Nat) (w : World) (h : IsR w g v xs 0) (hn : n ≤ xs.length) :
    Calls Tryz.prog 131 #[.pointer (some ⟨g, 0, none⟩), .int .i64 n] w fun e w' => ∃ ao, e = .returned (.tuple #[.slice ao n n, .bool true]) ∧ Sees w (.slice ao n n) (xs.take n) ∧ (∃ l c, v = .slice ao l c) ∧ w' = w := by
  have H : Hid (IsR w g v xs 0) := h
  have h1 := h.c1
  obtain ⟨ao, cap, rfl, g1, g2, g0, g3⟩ := h.2
  clear h g3
  unfold maxLen at g2
  go_enter Tryz.func131, Tryz.ntmps131
  go_wp2_with fail
  refine (rReads_any g _ xs 0 _ H.out).mono ?_
  rintro e w1 ⟨rfl, rfl⟩
  go_wp2
  go_ret2
  exact ⟨_, rfl, sees_take H.out.2 hn, ⟨_, _, rfl⟩, rfl⟩

set_option maxHeartbeats 400000 in
theorem rPeek_short (g : Nat) (v : Value) (xs : List Int) (n : Nat) (w : World) (h : IsR w g v xs 0) (hn : xs.length < n) :
    Calls Tryz.prog 131 #[.pointer (some ⟨g, 0, none⟩), .int .i64 n] w fun e w' => e = .returned (.tuple #[.slice none 0 0, .bool false]) ∧ w' = w.setCell ⟨g, 2, none⟩ (.int .i64 10) := by
  have H : Hid (IsR w g v xs 0) := h
  have h1 := h.c1
  have h2 := h.c2
  have h3 := h.fr 2
  obtain ⟨ao, cap, rfl, g1, g2, g0, g3⟩ := h.2
  clear h g3
  unfold maxLen at g2
  go_enter Tryz.func131, Tryz.ntmps131
  go_wp2_with fail
  refine (rReads_any g _ xs 0 _ H.out).mono ?_
  rintro e w1 ⟨rfl, rfl⟩
  go_wp2
  go_ret2
  exact ⟨rfl, rfl⟩

set_option maxHeartbeats 400000 in
theorem rPeek_neg (g : Nat) (v : Value) (xs : List Int) (n : Int) (w : World) (h : IsR w g v xs 0) (hn : n < 0) :
    Calls Tryz.prog 131 #[.pointer (some ⟨g, 0, none⟩), .int .i64 n] w fun e w' => e = .returned (.tuple #[.slice none 0 0, .bool false]) ∧ w' = w.setCell ⟨g, 2, none⟩ (.int .i64 11) := by
  have H : Hid (IsR w g v xs 0) := h
  have h2 := h.c2
  have h3 := h.fr 2
  clear h
  go_enter Tryz.func131, Tryz.ntmps131
  go_wp2_with fail
  refine (rReads_any g _ xs 0 _ H.out).mono ?_
  rintro e w1 ⟨rfl, rfl⟩
  go_wp2
  go_ret2
  exact ⟨rfl, rfl⟩

set_option maxHeartbeats 400000 in
theorem rPeek_fault (g : Nat) (v : Value) (xs : List Int) (n : Int) (f : Int) (w : World) (h : IsR w g v xs f) (hf : f ≠ 0) :
    Calls Tryz.prog 131 #[.pointer (some ⟨g, 0, none⟩), .int .i64 n] w fun e w' => e = .returned (.tuple #[.slice none 0 0, .bool false]) ∧ w' = w := by
  have H : Hid (IsR w g v xs f) := h
  clear h
  have hf' : (f == 0) = false := by simp [hf]
  clear hf
  go_enter Tryz.func131, Tryz.ntmps131
  go_wp2_with fail
  refine (rReads_any g _ xs f _ H.out).mono ?_
  rintro e w1 ⟨rfl, rfl⟩
  go_wp2
  go_ret2
  exact ⟨rfl, rfl⟩

set_option maxHeartbeats 400000 in
theorem join_any (v : Value) (xs : List Int) (w : World) (h : Sees w v xs) (hb : Byts xs) (h8 : xs.length ≤ 8) :
    Calls Tryz.prog 114 #[v] w fun e w' => e = .returned (.int .u64 (num xs)) ∧ w' = w := by
  obtain ⟨ao, cap, rfl, hlc, hcm, _, h3⟩ := h
  unfold maxLen at hcm
  go_enter Tryz.func114, Tryz.ntmps114
  go_wp2
  go_loop [3, 8] (fun a i => ∃ k : Nat, k ≤ xs.length ∧ i = .int .i64 k ∧ a = .int .u64 (num (xs.take k))) (fun _ i => xs.length - (intOf i).toNat)
  case atStart => exact ⟨0, Nat.zero_le _, rfl, rfl⟩
  case round =>
    obtain ⟨k, hk, rfl, rfl⟩ := hrel
    by_cases hlt : k < xs.length
    · rcases h3 with h3 | ⟨b, off, rfl, h3⟩
      · subst h3; simp at hlt
      · have hd := num_bd8 xs hb k hlt h8
        have hc := h3 k hlt
        have hx := hb.nth k
        have HS : Hid _ := num_next xs k hlt
        generalize xs.getD k 0 = x at *
        generalize hA : num (xs.take k) = A at *
        clear hA h3 hb
        go_wp2
        go_round
        case rel => exact ⟨k + 1, by omega, by go_num, by rw [HS.out, num_or A x hd.1 hd.2 hx.1 hx.2]⟩
        case measure => simp [intOf]; omega
    · obtain rfl : k = xs.length := by omega
      rw [List.take_length] at *
      go_wp2
      go_ret
      exact ⟨rfl, rfl⟩

/-- What is left of a slice behind its first n bytes, as Go cuts it. -/
def cutFrom (v : Value) (n : Nat) : Value := match v with
  | .slice ao l c => if c = n then .slice ao (l - n) 0 else .slice (ao.map (·.add n)) (l - n) (c - n)
  | u => u

theorem addr_add (b off n : Nat) : (⟨b, off, none⟩ : Addr).add n = ⟨b, off + n, none⟩ := by
  by_cases h : n = 0
  · subst h; simp [Addr.add]
  · simp [Addr.add, h]

theorem sees_drop {w : World} {ao : Option Addr} {xs : List Int} {cap n : Nat} (h : Sees w (.slice ao xs.length cap) xs) (hn : n ≤ xs.length) : Sees w (cutFrom (.slice ao xs.length cap) n) (xs.drop n) := by
  obtain ⟨ao', cap', e, g1, g2, g0, g3⟩ := h
  simp at e
  obtain ⟨rfl, rfl⟩ := e
  have hl : (xs.drop n).length = xs.length - n := by simp
  unfold cutFrom
  simp only
  by_cases hc : cap = n
  · rw [if_pos hc]
    have : xs.drop n = [] := List.eq_nil_of_length_eq_zero (by omega)
    exact ⟨ao, 0, by rw [hl], by omega, by unfold maxLen; omega, fun _ => rfl, .inl this⟩
  · rw [if_neg hc]
    refine ⟨_, cap - n, by rw [hl], by omega, by omega, fun e => ?_, ?_⟩
    · cases ao with
      | none => have := g0 rfl; omega
      | some a => simp at e
    · rcases g3 with g3 | ⟨b, off, rfl, g3⟩
      · subst g3; exact .inl (by simp)
      · refine .inr ⟨b, off + n, by simp [addr_add], fun i hi => ?_⟩
        have := g3 (n + i) (by omega)
        rw [Nat.add_assoc, this]
        simp [List.getD_eq_getElem?_getD]

theorem cutFrom_block {ao : Option Addr} {l c n k : Nat} (h : (cutFrom (.slice ao l c) n).ownBlock = some k) : (Value.slice ao l c).ownBlock = some k := by
  unfold cutFrom at h
  simp only at h
  by_cases hc : c = n
  · rw [if_pos hc] at h
    cases ao with
    | none => simp [Value.ownBlock] at h
    | some a => simpa [Value.ownBlock] using h
  · rw [if_neg hc] at h
    cases ao with
    | none => simp [Value.ownBlock] at h
    | some a =>
      obtain ⟨b, off, sp⟩ := a
      simp [Value.ownBlock, Addr.add] at h ⊢
      by_cases hn : n = 0
      · simpa [hn] using h
      · simpa [hn] using h

theorem IsR.skip {w : World} {g : Nat} {v : Value} {xs : List Int} {f : Int} {n : Nat} (h : IsR w g v xs f) (hn : n ≤ xs.length) : IsR (w.setCell ⟨g, 1, none⟩ (cutFrom v n)) g (cutFrom v n) (xs.drop n) f := by
  have h2 := h.2
  obtain ⟨ao, cap, rfl, g1, g2, g0, g3⟩ := h2
  refine h.turn (sees_drop h.2 hn) (fun hx e => ?_)
  exact h.apart (fun e2 => hx (by rw [e2]; simp)) (cutFrom_block e)

set_option maxHeartbeats 400000 in
theorem rSkip_ok (g : Nat) (v : Value) (xs : List Int) (n : Nat) (f : Int) (w : World) (h : IsR w g v xs f) (hn : n ≤ xs.length) :
    Calls Tryz.prog 132 #[.pointer (some ⟨g, 0, none⟩), .int .i64 n] w fun e w' => e = .returned (.tuple #[]) ∧ w' = w.setCell ⟨g, 1, none⟩ (cutFrom v n) := by
  have h1 := h.c1
  have hf := h.fr 1
  obtain ⟨ao, cap, rfl, g1, g2, g0, g3⟩ := h.2
  clear h g3
  unfold maxLen at g2
  by_cases hc : cap = n
  · have e : cutFrom (.slice ao xs.length cap) n = .slice ao (xs.length - n) 0 := by unfold cutFrom; simp [hc]
    rw [e]
    clear e
    subst hc
    go_enter Tryz.func132, Tryz.ntmps132
    go_wp2
    go_end0
    exact ⟨rfl, by rw [show xs.length - cap = 0 by omega]⟩
  · have e : cutFrom (.slice ao xs.length cap) n = .slice (ao.map (·.add n)) (xs.length - n) (cap - n) := by unfold cutFrom; simp [hc]
    rw [e]
    clear e
    go_enter Tryz.func132, Tryz.ntmps132
    go_wp2
    go_end0
    exact ⟨rfl, rfl⟩

/-- A Reader's state behind a call. -/
structure Rd where
  out : Int
  rest : List Int
  fault : Int

/-- n bytes as a number: by the document. -/
def rdNum (n : Nat) (xs : List Int) (f : Int) : Rd :=
  if f ≠ 0 then ⟨0, xs, f⟩ else if xs.length < n then ⟨0, xs, 10⟩ else ⟨num (xs.take n), xs.drop n, 0⟩

set_option maxHeartbeats 400000 in
theorem rTake_ok (g : Nat) (v : Value) (xs : List Int) (n : Nat) (w : World) (h : IsR w g v xs 0) (hn : n ≤ xs.length) :
    Calls Tryz.prog 115 #[.pointer (some ⟨g, 0, none⟩), .int .i64 n] w fun e w' => ∃ ao, e = .returned (.slice ao n n) ∧ Sees w (.slice ao n n) (xs.take n) ∧ (∃ l c, v = .slice ao l c) ∧ w' = w.setCell ⟨g, 1, none⟩ (cutFrom v n) := by
  have H : Hid (IsR w g v xs 0) := h
  clear h
  go_enter Tryz.func115, Tryz.ntmps115
  go_wp2_with fail
  refine (rPeek_ok g v xs n _ H.out hn).mono ?_
  rintro e w1 ⟨ao, rfl, hs, hv, rfl⟩
  have HS : Hid (Sees w1 (.slice ao n n) (xs.take n) ∧ ∃ l c, v = .slice ao l c) := ⟨hs, hv⟩
  clear hs hv
  go_wp2_with fail
  refine (rSkip_ok g v xs n 0 _ H.out hn).mono ?_
  rintro e w2 ⟨rfl, rfl⟩
  go_wp2
  go_ret
  exact ⟨_, rfl, HS.out.1, HS.out.2, rfl⟩

set_option maxHeartbeats 400000 in
theorem rTake_short (g : Nat) (v : Value) (xs : List Int) (n : Nat) (w : World) (h : IsR w g v xs 0) (hn : xs.length < n) :
    Calls Tryz.prog 115 #[.pointer (some ⟨g, 0, none⟩), .int .i64 n] w fun e w' => e = .returned (.slice none 0 0) ∧ w' = w.setCell ⟨g, 2, none⟩ (.int .i64 10) := by
  have H : Hid (IsR w g v xs 0) := h
  clear h
  go_enter Tryz.func115, Tryz.ntmps115
  go_wp2_with fail
  refine (rPeek_short g v xs n _ H.out hn).mono ?_
  rintro e w1 ⟨rfl, rfl⟩
  go_wp2
  go_ret
  exact ⟨rfl, rfl⟩

set_option maxHeartbeats 400000 in
theorem rTake_neg (g : Nat) (v : Value) (xs : List Int) (n : Int) (w : World) (h : IsR w g v xs 0) (hn : n < 0) :
    Calls Tryz.prog 115 #[.pointer (some ⟨g, 0, none⟩), .int .i64 n] w fun e w' => e = .returned (.slice none 0 0) ∧ w' = w.setCell ⟨g, 2, none⟩ (.int .i64 11) := by
  have H : Hid (IsR w g v xs 0) := h
  clear h
  go_enter Tryz.func115, Tryz.ntmps115
  go_wp2_with fail
  refine (rPeek_neg g v xs n _ H.out hn).mono ?_
  rintro e w1 ⟨rfl, rfl⟩
  go_wp2
  go_ret
  exact ⟨rfl, rfl⟩

set_option maxHeartbeats 400000 in
theorem rTake_fault (g : Nat) (v : Value) (xs : List Int) (n : Int) (f : Int) (w : World) (h : IsR w g v xs f) (hf : f ≠ 0) :
    Calls Tryz.prog 115 #[.pointer (some ⟨g, 0, none⟩), .int .i64 n] w fun e w' => e = .returned (.slice none 0 0) ∧ w' = w := by
  have H : Hid (IsR w g v xs f ∧ f ≠ 0) := ⟨h, hf⟩
  clear h hf
  go_enter Tryz.func115, Tryz.ntmps115
  go_wp2_with fail
  refine (rPeek_fault g v xs n f _ H.out.1 H.out.2).mono ?_
  rintro e w1 ⟨rfl, rfl⟩
  go_wp2
  go_ret
  exact ⟨rfl, rfl⟩

theorem sees_nil (w : World) : Sees w (.slice none 0 0) [] := ⟨none, 0, rfl, Nat.le_refl _, by unfold maxLen; omega, fun _ => rfl, .inl rfl⟩

/-- The Reader at g behind a call: its state is s. -/
def ReadsTo (w : World) (g : Nat) (v : Value) (s : Rd) (w' : World) : Prop :=
  ∃ v', IsR w' g v' s.rest s.fault ∧ (∀ k, v'.ownBlock = some k → v.ownBlock = some k) ∧ Kept w w' (· = g)

theorem ReadsTo.stay {w : World} {g : Nat} {v : Value} {xs : List Int} {f n : Int} (h : IsR w g v xs f) : ReadsTo w g v ⟨n, xs, f⟩ w := ⟨v, h, fun _ h => h, Kept.refl _ _⟩
theorem ReadsTo.fail {w : World} {g : Nat} {v : Value} {xs : List Int} {f n : Int} (h : IsR w g v xs f) (e : Int) : ReadsTo w g v ⟨n, xs, e⟩ (w.setCell ⟨g, 2, none⟩ (.int .i64 e)) :=
  ⟨v, h.fail e, fun _ h => h, (Kept.refl w _).setCell _ _ (fun _ => rfl)⟩
theorem ReadsTo.skip {w : World} {g : Nat} {v : Value} {xs : List Int} {f x : Int} {n : Nat} (h : IsR w g v xs f) (hn : n ≤ xs.length) : ReadsTo w g v ⟨x, xs.drop n, f⟩ (w.setCell ⟨g, 1, none⟩ (cutFrom v n)) := by
  refine ⟨_, h.skip hn, fun k hk => ?_, (Kept.refl w _).setCell _ _ (fun _ => rfl)⟩
  obtain ⟨ao, cap, rfl, _⟩ := h.2
  exact cutFrom_block hk

set_option maxHeartbeats 400000 in
theorem rNumber_any (g : Nat) (v : Value) (xs : List Int) (f : Int) (n : Nat) (w : World) (h : IsR w g v xs f) (hb : Byts xs) (h8 : n ≤ 8) :
    Calls Tryz.prog 87 #[.pointer (some ⟨g, 0, none⟩), .int .i64 n] w fun e w' => e = .returned (.int .u64 (rdNum n xs f).out) ∧ ReadsTo w g v (rdNum n xs f) w' := by
  have H : Hid (IsR w g v xs f ∧ Byts xs) := ⟨h, hb⟩
  clear h hb
  by_cases hf : f = 0
  · by_cases hl : xs.length < n
    · have e1 : rdNum n xs f = ⟨0, xs, 10⟩ := by simp [rdNum, hf, hl]
      rw [e1]
      clear e1
      subst hf
      go_enter Tryz.func87, Tryz.ntmps87
      go_wp2_with fail
      refine (rTake_short g v xs n _ H.out.1 hl).mono ?_
      rintro e w1 ⟨rfl, rfl⟩
      go_wp2_with fail
      refine (join_any _ [] _ (sees_nil _) (by intro x hx; simp at hx) (by simp)).mono ?_
      rintro e w2 ⟨rfl, rfl⟩
      go_wp2
      go_ret
      exact ⟨rfl, ReadsTo.fail H.out.1 10⟩
    · have e1 : rdNum n xs f = ⟨num (xs.take n), xs.drop n, 0⟩ := by simp [rdNum, hf, hl]
      rw [e1]
      clear e1
      subst hf
      go_enter Tryz.func87, Tryz.ntmps87
      go_wp2_with fail
      refine (rTake_ok g v xs n _ H.out.1 (by omega)).mono ?_
      rintro e w1 ⟨ao, rfl, hs, hv, rfl⟩
      have HS : Hid (Sees w (.slice ao n n) (xs.take n) ∧ ∃ l c, v = .slice ao l c) := ⟨hs, hv⟩
      clear hs hv
      go_wp2_with fail
      refine (join_any _ (xs.take n) _ (HS.out.1.set _ _ (fun hx => ?_)) (H.out.2.take n) (by simp; omega)).mono ?_
      · obtain ⟨l, c, e⟩ := HS.out.2
        have := H.out.1.apart (fun e2 => hx (by rw [e2]; simp))
        rw [e] at this
        cases ao with
        | none => simp [Value.ownBlock]
        | some a => simpa [Value.ownBlock] using this
      rintro e w2 ⟨rfl, rfl⟩
      go_wp2
      go_ret
      exact ⟨rfl, ReadsTo.skip H.out.1 (by omega)⟩
  · have e1 : rdNum n xs f = ⟨0, xs, f⟩ := by simp [rdNum, hf]
    rw [e1]
    clear e1
    have HF : Hid (f ≠ 0) := hf
    clear hf
    go_enter Tryz.func87, Tryz.ntmps87
    go_wp2_with fail
    refine (rTake_fault g v xs n f _ H.out.1 HF.out).mono ?_
    rintro e w1 ⟨rfl, rfl⟩
    go_wp2_with fail
    refine (join_any _ [] _ (sees_nil _) (by intro x hx; simp at hx) (by simp)).mono ?_
    rintro e w2 ⟨rfl, rfl⟩
    go_wp2
    go_ret
    exact ⟨rfl, ReadsTo.stay H.out.1⟩

/-- A number of 32 bits as an int32. -/
def down32 (n : Int) : Int := wrap32 n
theorem down32_is (n : Int) (h0 : 0 ≤ n) (h1 : n < 4294967296) : down32 n = if n ≤ 2147483647 then n else n - 4294967296 := by
  unfold down32 wrap32; split <;> omega

theorem rdNum_bd (n : Nat) (xs : List Int) (f : Int) (hb : Byts xs) : 0 ≤ (rdNum n xs f).out ∧ (rdNum n xs f).out < 256 ^ n := by
  have h0 : (0 : Int) < 256 ^ n := Int.pow_pos (by decide)
  unfold rdNum
  by_cases hf : f ≠ 0
  · rw [if_pos hf]; exact ⟨Int.le_refl _, h0⟩
  · rw [if_neg hf]
    by_cases hl : xs.length < n
    · rw [if_pos hl]; exact ⟨Int.le_refl _, h0⟩
    · rw [if_neg hl]; exact num_bd xs hb n (by omega)

theorem sees_first {w : World} {ao : Option Addr} {n c : Nat} {xs : List Int} (h : Sees w (.slice ao n c) (xs.take n)) (hn : 0 < n ∧ 0 < xs.length) : ∃ b off, ao = some ⟨b, off, none⟩ ∧ w.cell? ⟨b, off, none⟩ = some (.int .u8 (xs.getD 0 0)) := by
  obtain ⟨ao', cap, e, _, _, _, h3⟩ := h
  simp at e
  obtain ⟨rfl, _, _⟩ := e
  rcases h3 with h3 | ⟨b, off, rfl, h3⟩
  · have : (xs.take n).length = 0 := by rw [h3]; rfl
    rw [List.length_take] at this
    omega
  · refine ⟨b, off, rfl, ?_⟩
    have := h3 0 (by simp; omega)
    rw [Nat.add_zero] at this
    rw [this]
    have hn' : 0 < n := hn.1
    simp [List.getD_eq_getElem?_getD, hn']

/-- New: a Reader over a copy of the bytes. -/
theorem new_any (u : Value) (ys : List Int) (w : World) (hu : Sees w u ys) (hl : ys.length ≤ 140737488355328) :
    Calls Tryz.prog 42 #[u] w fun e w' => ∃ g v, e = .returned (.pointer (some ⟨g, 0, none⟩)) ∧ IsR w' g v ys 0 ∧ w.heap.size ≤ g ∧ Owns w' w.heap.size v ys ∧ Below w.heap.size w w' := by
  have H : Hid (Sees w u ys) := hu
  clear hu
  go_enter Tryz.func42, Tryz.ntmps42
  go_wp2_with fail
  refine (clone_any u ys _ H.out hl).mono ?_
  rintro e w1 ⟨v, rfl, hp⟩
  have HP : Hid (Owns w1 w.heap.size v ys ∧ Below w.heap.size w w1) := hp
  obtain ⟨ao', n', c', hv'⟩ := owns_shape hp.1
  clear hp
  subst hv'
  go_wp2
  go_ret
  exact ⟨w1.heap.size, _, rfl, ⟨heap_alloc_new _ _, Sees.own (HP.out.1.alloc _)⟩, HP.out.2.size, HP.out.1.alloc _, HP.out.2.alloc HP.out.2.size _⟩

end Go.Proofs.YtiakjeomedijkaaGreatDoor
