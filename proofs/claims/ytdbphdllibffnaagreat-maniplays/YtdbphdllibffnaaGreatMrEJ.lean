/- The document's bytes of a manifest: join, Bytes, Write. -/
import Derived.Test.YtdbphdllibffnaaGreatRef3J
import Derived.Test.YtdbphdllibffnaaGreatMaMJ
import Derived.Maps.AppendAt
import Derived.Test.YtdbphdllibffnaaGreatMaCJ
import Derived.Test.YtdbphdllibffnaaGreatFrJ
import Derived.Deep.QuietTactic
import Derived.BigQuiet
import Derived.Deep.RegionHeld
import Derived.Test.YtdbphdllibffnaaGreatMsAJ
import Derived.Test.YtdbphdllibffnaaGreatCopyJ
import Derived.Test.YtdbphdllibffnaaGreatWriterJ
import Derived.Test.YtdbphdllibffnaaGreatFr3J
namespace Go.Proofs.YtdbphdllibffnaaGreat
open Go.RowKit
set_option maxRecDepth 8000

theorem mOwns_new (w : World) (cs : Array Value) (ys : List Int) (hl : ys.length ≤ 4096) (h : cs.toList = ys.map (Value.int .u8)) : Owns (w.alloc (.cells cs 5)) w.heap.size (.slice (some ⟨w.heap.size, 0, none⟩) ys.length ys.length) ys := by
  have hs : cs.size = ys.length * 1 := by
    have := congrArg List.length h
    simp at this
    omega
  have := World.ownsRow_lit (base := w.heap.size) (e := 5) (size := 1) w cs ys.length (Nat.le_refl _) (by unfold maxLen; omega) hs
  rw [h] at this
  exact this

theorem rI8_m (n : Int) (w : World) (h0 : -128 ≤ n) (h1 : n ≤ 127) : Calls Tryz.prog 100 #[.int .i8 n] w fun e w' => ∃ v', e = .returned v' ∧ Owns w' w.heap.size v' [n % 256] ∧ Below w.heap.size w w' := by
  by_cases hn : n < 0
  · go_enter Tryz.func100, Tryz.ntmps100
    go_wp2
    go_ret
    exact ⟨_, rfl, mOwns_new w _ [n % 256] (by simp) (by simp; omega), (Below.refl _ _).alloc (Nat.le_refl _) _⟩
  · go_enter Tryz.func100, Tryz.ntmps100
    go_wp2
    go_ret
    exact ⟨_, rfl, mOwns_new w _ [n % 256] (by simp) (by simp; omega), (Below.refl _ _).alloc (Nat.le_refl _) _⟩

set_option maxHeartbeats 400000 in
theorem rU32_m (n : Int) (w : World) (h0 : 0 ≤ n) (h1 : n < 4294967296) : Calls Tryz.prog 102 #[.int .u32 n] w fun e w' => ∃ v', e = .returned v' ∧ Owns w' w.heap.size v' (be4 n) ∧ Below w.heap.size w w' := by
  have hd : Hid (digs 4 n = be4 n) := digs4 n h0 h1
  go_enter Tryz.func102, Tryz.ntmps102
  go_wp2_with fail
  refine (digits_any n 4 _ (by omega) (by omega) (by omega)).mono ?_
  rintro e w1 ⟨v, rfl, hp⟩
  rw [hd.out] at hp
  have HP : Hid (Owns w1 w.heap.size v (be4 n) ∧ Below w.heap.size w w1) := hp
  clear hp
  go_wp2
  go_ret
  exact ⟨_, rfl, HP.out⟩

/-- The row v grew to v', of the bytes zs: no other block of w changed. -/
structure BehM (B : Nat) (w : World) (v : Value) (zs : List Int) (w' : World) (v' : Value) : Prop where
  own : Owns w' B v' zs
  kept : Kept w w' (fun k => v.ownBlock = some k)
  blk : ∀ j, v'.ownBlock = some j → v.ownBlock = some j ∨ w.heap.size ≤ j
  base : B ≤ w'.heap.size

theorem BehM.trans {B : Nat} {w w1 w2 : World} {v v1 v2 : Value} {xs ys : List Int} (h : BehM B w v xs w1 v1) (g : BehM B w1 v1 ys w2 v2) : BehM B w v ys w2 v2 := by
  have hs := h.kept.size
  refine ⟨g.own, ⟨?_, ?_, ?_, ?_, fun k hk hn => ?_⟩, fun j e => ?_, g.base⟩
  · rw [g.kept.os, h.kept.os]
  · rw [g.kept.tape, h.kept.tape]
  · rw [g.kept.output, h.kept.output]
  · have := g.kept.size; omega
  · rw [g.kept.block k (by omega) (fun e => ?_), h.kept.block k hk hn]
    rcases h.blk k e with h' | h'
    · exact hn h'
    · omega
  · rcases g.blk j e with h' | h'
    · exact h.blk j h'
    · exact .inr (by omega)

theorem BehM.refl {B : Nat} {w : World} {v : Value} {xs : List Int} (h : Owns w B v xs) (hB : B ≤ w.heap.size) : BehM B w v xs w v := ⟨h, Kept.refl _ _, fun _ e => .inl e, hB⟩

theorem bem_step {B : Nat} {w wr w1 : World} {v0 v v' : Value} {xs : List Int} {x : Int} {o : Obj} (h : BehM B w v0 xs wr v)
    (hown' : w1.ownsRow B 5 1 v' (xs.length + 1) (xs.map (Value.int .u8) ++ [.int .u8 x])) (hgrow : (wr.alloc o).grownBy w1 v.ownBlock) (hb : v'.ownBlock = v.ownBlock ∨ v'.ownBlock = some (wr.heap.size + 1)) :
    BehM B w v0 (xs ++ [x]) w1 v' := by
  have hsz := h.kept.size
  have ha : Kept wr (wr.alloc o) (fun _ => False) := (Kept.refl wr _).alloc _
  have hsa : (wr.alloc o).heap.size = wr.heap.size + 1 := by simp
  have hg := hgrow.size
  refine h.trans ⟨by simpa [Owns] using hown', ⟨?_, ?_, ?_, by omega, fun k hk' hS => ?_⟩, fun j e => ?_, by have := h.base; omega⟩
  · rw [hgrow.os, ha.os]
  · rw [hgrow.tape, ha.tape]
  · rw [hgrow.output, ha.output]
  · rw [hgrow.block k (by omega) (fun e => hS e.symm), ha.block k hk' (fun h => h)]
  · rcases hb with h | h
    · rw [h] at e; exact .inl e
    · rw [h] at e; simp at e; omega

set_option maxHeartbeats 1000000 in
theorem mjoin_any (B : Nat) (v u : Value) (xs ys : List Int) (w : World) (hv : Owns w B v xs) (hu : Sees w u ys) (hd : ∀ j, u.ownBlock = some j → v.ownBlock ≠ some j) (hB : B ≤ w.heap.size) (hl : xs.length + ys.length ≤ 1000000000) :
    Calls Tryz.prog 101 #[v, u] w fun e w' => ∃ v', e = .returned v' ∧ BehM B w v (xs ++ ys) w' v' := by
  obtain ⟨i0, hi, hz0, hz1, hz2⟩ := info_parts Tryz.infoByte
  obtain ⟨ao, cap, rfl, hlc, hcm, _, h3⟩ := hu
  unfold maxLen at hcm
  have H3 : Hid _ := h3
  have HV : Hid (Owns w B v xs) := hv
  have HD : Hid _ := hd
  clear h3 hv hd
  go_enter Tryz.func101, Tryz.ntmps101
  go_wp2
  go_loopw [0, 5] (fun v' i wr => ∃ k : Nat, k ≤ ys.length ∧ i = .int .i64 k ∧ BehM B w v (xs ++ ys.take k) wr v') (fun _ i _ => ys.length - (intOf i).toNat)
  case atStart => exact ⟨0, Nat.zero_le _, rfl, by simpa using BehM.refl HV.out hB⟩
  case round =>
    clear HV
    obtain ⟨k, hk, rfl, hbe⟩ := hrel
    by_cases hlt : k < ys.length
    · rcases H3.out with h3 | ⟨b, off, rfl, h3⟩
      · subst h3; simp at hlt
      · have hc := hbe.kept.cell (h3 k hlt) (fun e => HD.out b rfl e)
        have HN : Hid _ := take_next ys k hlt
        have HL : Hid ((xs ++ ys.take k).length ≤ xs.length + k) := by show _ ≤ _; simp; omega
        clear h3 H3
        generalize ys.getD k 0 = x at *
        have HN2 : Hid (xs ++ ys.take (k + 1) = (xs ++ ys.take k) ++ [x]) := by show _ = _; rw [HN.out]; simp
        clear HN
        generalize xs ++ ys.take k = zs at *
        have HK : Hid _ := hbe
        have hown := hbe.own
        have hsz := hbe.base
        clear hbe
        go_wp2_with (at_builtin; refine wpList_append_own_at _ rfl _ _ 36 rfl B 5 i0 (.int .u8 0) 1 1 Tryz.underlying36 hi hz0 hz1 hz2 rfl (by decide) _ _ _ rfl (hown.alloc _) ⟨wr.heap.size, 0, none⟩ 1 1 [.int .u8 x] rfl rfl (cell_one_new _ _ _) ?c2 ?c3 ?c4 ?c5 ?_)
        case c2 => intro u hu; simp at hu; subst hu; rfl
        case c3 => have := HL.out; unfold maxLen; omega
        case c4 => have := HL.out; omega
        case c5 => simp; omega
        intro v' w1 hown' hgrow _ hbk
        have R : Hid _ := bem_step HK.out hown' hgrow (by simpa using hbk)
        clear hown' hgrow hown hc hbk HK
        go_wp2
        go_roundw
        case rel => exact ⟨k + 1, by omega, by go_num, by rw [HN2.out]; exact R.out⟩
        case measure => simp [intOf]; omega
    · obtain rfl : k = ys.length := by omega
      rw [List.take_length] at hbe
      have HE : Hid _ := hbe
      clear hbe
      go_wp2
      go_ret
      exact ⟨_, rfl, HE.out⟩

end Go.Proofs.YtdbphdllibffnaaGreat

/- The document's bytes of a manifest, and its Write; what Write answers, of the program and of the document, in one form. -/
namespace Go.Proofs.YtdbphdllibffnaaGreat
open Go.RowKit Go.Shelf
set_option maxRecDepth 8000

/-- Bytes of one's own beside the box of the manifest. -/
structure Bt (w : World) (o : Obj) (W : World) (v : Value) (zs : List Int) : Prop where
  own : Owns W (w.heap.size + 1) v zs
  bel : Below w.heap.size w W
  row : W.heap[w.heap.size]? = some o

theorem Bt.later {w W W' : World} {o : Obj} {v : Value} {zs : List Int} (h : Bt w o W v zs) (hb : Below W.heap.size W W') : Bt w o W' v zs :=
  ⟨Owns.kept h.own (Below.kept hb) (fun k e h' => by have := (h.own.lt k e).2; omega), h.bel.trans (hb.mono h.bel.size), (hb.block _ (lt_of_block h.row)).trans h.row⟩

theorem Bt.join {w W W' : World} {o : Obj} {v v' : Value} {xs zs : List Int} (h : Bt w o W v xs) (hb : BehM (w.heap.size + 1) W v zs W' v') : Bt w o W' v' zs := by
  refine ⟨hb.own, h.bel.trans (hb.kept.below h.bel.size (fun k e => by have := (h.own.lt k e).1; omega)), hb.kept.heap h.row (fun e => by have := (h.own.lt _ e).1; omega)⟩

theorem join_bt {w W W1 : World} {o : Obj} {v u : Value} {xs ys : List Int} (h : Bt w o W v xs) (hb : Below W.heap.size W W1) (hu : Owns W1 W.heap.size u ys) (hl : xs.length + ys.length ≤ 1000000000) :
    Calls Tryz.prog 101 #[v, u] W1 fun e w' => ∃ v', e = .returned v' ∧ Bt w o w' v' (xs ++ ys) := by
  have h1 := h.later hb
  have hB : w.heap.size + 1 ≤ W1.heap.size := by have := lt_of_block h1.row; omega
  refine (mjoin_any (w.heap.size + 1) v u xs ys W1 h1.own (Sees.own hu) (fun j e e' => ?_) hB hl).mono ?_
  · have a1 := (hu.lt j e).1
    have a2 := (h.own.lt j e').2
    omega
  · rintro e w' ⟨v', rfl, hb'⟩
    exact ⟨v', rfl, h1.join hb'⟩

end Go.Proofs.YtdbphdllibffnaaGreat

/- The document's Bytes and Write of a manifest; what Write answers, of the program and of the document, in one form. -/
namespace Go.Proofs.YtdbphdllibffnaaGreat
open Go.RowKit Go.Shelf
set_option maxRecDepth 8000
set_option linter.unusedSimpArgs false

set_option maxHeartbeats 1000000 in
theorem refBytes_m (m : MaD) (hm : m.Fits) (w : World) : Calls Tryz.prog 52 #[m.val] w fun e w' => ∃ v, e = .returned v ∧ Owns w' w.heap.size v (maF m) ∧ Below w.heap.size w w' := by
  have HM : Hid _ := hm
  have HY : Hid (Byts (maB m)) := maB_byts m hm
  clear hm
  obtain ⟨boot, acc, cur, snap, log⟩ := m
  obtain ⟨W, eW⟩ : ∃ W, W = w.alloc (.cells #[.int .u32 boot, .int .u32 acc, .int .u32 cur, .int .i64 snap, .int .i64 log] 35) := ⟨_, rfl⟩
  have HX : Hid (Below w.heap.size w W ∧ W.heap.size = w.heap.size + 1 ∧ W.heap[w.heap.size]? = some (.cells #[.int .u32 boot, .int .u32 acc, .int .u32 cur, .int .i64 snap, .int .i64 log] 35 (0, 0))) := by
    rw [eW]
    exact ⟨one_allocK _ _, World.size_alloc _ _, heap_alloc_new w _⟩
  have HE : Hid _ := eW
  have HI : Hid _ := rI8_m 1 W (by omega) (by omega)
  clear eW
  go_enter Tryz.func52, Tryz.ntmps52
  go_upto_region 1 with fail
  rw [← HE.out]
  clear HE
  go_wp2_with fail
  refine Calls.mono HI.out ?_
  rintro e w0 ⟨v0, rfl, ho, hb⟩
  have H0 : Hid (Bt w (.cells #[.int .u32 boot, .int .u32 acc, .int .u32 cur, .int .i64 snap, .int .i64 log] 35 (0, 0)) w0 v0 [1]) := ⟨by have := ho; rw [HX.out.2.1] at this; exact this, Below.step HX.out.1 hb, (Below.kept hb).heap HX.out.2.2 (fun e => by have := HX.out.2.1; omega)⟩
  clear ho hb HI HX
  have r0 := H0.out.row
  have l0 := lt_of_block r0
  have c0 := cell_of_row w0 _ 0 _ _ _ r0
  simp only [List.getElem?_toArray, List.getElem?_cons_zero, List.getElem?_cons_succ] at c0
  have HU0 : Hid _ := rU32_m boot w0 HM.out.b0 HM.out.b1
  clear r0
  go_wp2_with fail
  refine Calls.mono HU0.out ?_
  rintro e x0 ⟨u0, rfl, ho, hb⟩
  have HJ0 : Hid _ := join_bt H0.out hb ho (by simp [be4, be8])
  clear ho hb HU0 c0 l0
  go_wp2_with fail
  refine Calls.mono HJ0.out ?_
  rintro e w1 ⟨v1, rfl, hh⟩
  have H1 : Hid (Bt w (.cells #[.int .u32 boot, .int .u32 acc, .int .u32 cur, .int .i64 snap, .int .i64 log] 35 (0, 0)) w1 v1 ([1] ++ be4 boot)) := hh
  clear hh HJ0 H0
  have r1 := H1.out.row
  have l1 := lt_of_block r1
  have c1 := cell_of_row w1 _ 1 _ _ _ r1
  simp only [List.getElem?_toArray, List.getElem?_cons_zero, List.getElem?_cons_succ] at c1
  have HU1 : Hid _ := rU32_m acc w1 HM.out.a0 HM.out.a1
  clear r1
  go_wp2_with fail
  refine Calls.mono HU1.out ?_
  rintro e x1 ⟨u1, rfl, ho, hb⟩
  have HJ1 : Hid _ := join_bt H1.out hb ho (by simp [be4, be8])
  clear ho hb HU1 c1 l1
  go_wp2_with fail
  refine Calls.mono HJ1.out ?_
  rintro e w2 ⟨v2, rfl, hh⟩
  have H2 : Hid (Bt w (.cells #[.int .u32 boot, .int .u32 acc, .int .u32 cur, .int .i64 snap, .int .i64 log] 35 (0, 0)) w2 v2 (([1] ++ be4 boot) ++ be4 acc)) := hh
  clear hh HJ1 H1
  have r2 := H2.out.row
  have l2 := lt_of_block r2
  have c2 := cell_of_row w2 _ 2 _ _ _ r2
  simp only [List.getElem?_toArray, List.getElem?_cons_zero, List.getElem?_cons_succ] at c2
  have HU2 : Hid _ := rU32_m cur w2 HM.out.c0 HM.out.c1
  clear r2
  go_wp2_with fail
  refine Calls.mono HU2.out ?_
  rintro e x2 ⟨u2, rfl, ho, hb⟩
  have HJ2 : Hid _ := join_bt H2.out hb ho (by simp [be4, be8])
  clear ho hb HU2 c2 l2
  go_wp2_with fail
  refine Calls.mono HJ2.out ?_
  rintro e w3 ⟨v3, rfl, hh⟩
  have H3 : Hid (Bt w (.cells #[.int .u32 boot, .int .u32 acc, .int .u32 cur, .int .i64 snap, .int .i64 log] 35 (0, 0)) w3 v3 ((([1] ++ be4 boot) ++ be4 acc) ++ be4 cur)) := hh
  clear hh HJ2 H2
  have r3 := H3.out.row
  have l3 := lt_of_block r3
  have c3 := cell_of_row w3 _ 3 _ _ _ r3
  simp only [List.getElem?_toArray, List.getElem?_cons_zero, List.getElem?_cons_succ] at c3
  have HU3 : Hid _ := refInt64_any snap w3 HM.out.s0 HM.out.s1
  clear r3
  go_wp2_with fail
  refine Calls.mono HU3.out ?_
  rintro e x3 ⟨u3, rfl, ho, hb⟩
  have HJ3 : Hid _ := join_bt H3.out hb ho (by simp [be4, be8])
  clear ho hb HU3 c3 l3
  go_wp2_with fail
  refine Calls.mono HJ3.out ?_
  rintro e w4 ⟨v4, rfl, hh⟩
  have H4 : Hid (Bt w (.cells #[.int .u32 boot, .int .u32 acc, .int .u32 cur, .int .i64 snap, .int .i64 log] 35 (0, 0)) w4 v4 (((([1] ++ be4 boot) ++ be4 acc) ++ be4 cur) ++ be8 (up64 snap))) := hh
  clear hh HJ3 H3
  have r4 := H4.out.row
  have l4 := lt_of_block r4
  have c4 := cell_of_row w4 _ 4 _ _ _ r4
  simp only [List.getElem?_toArray, List.getElem?_cons_zero, List.getElem?_cons_succ] at c4
  have HU4 : Hid _ := refInt64_any log w4 HM.out.l0 HM.out.l1
  clear r4
  go_wp2_with fail
  refine Calls.mono HU4.out ?_
  rintro e x4 ⟨u4, rfl, ho, hb⟩
  have HJ4 : Hid _ := join_bt H4.out hb ho (by simp [be4, be8])
  clear ho hb HU4 c4 l4
  go_wp2_with fail
  refine Calls.mono HJ4.out ?_
  rintro e w5 ⟨v5, rfl, hh⟩
  have H5 : Hid (Bt w (.cells #[.int .u32 boot, .int .u32 acc, .int .u32 cur, .int .i64 snap, .int .i64 log] 35 (0, 0)) w5 v5 ((((([1] ++ be4 boot) ++ be4 acc) ++ be4 cur) ++ be8 (up64 snap)) ++ be8 (up64 log))) := hh
  clear hh HJ4 H4
  have HF : Hid _ := refFrame_any v5 (maB ⟨boot, acc, cur, snap, log⟩) w5 (by have := Sees.own H5.out.own; simpa [maB] using this) HY.out (by rw [maB_len]; omega)
  go_wp2_with fail
  refine Calls.mono HF.out ?_
  rintro e w6 ⟨v6, rfl, ho, hb⟩
  have HR : Hid (Owns w6 w.heap.size v6 (maF ⟨boot, acc, cur, snap, log⟩) ∧ Below w.heap.size w w6) := ⟨owns_mono ho H5.out.bel.size, Below.step H5.out.bel hb⟩
  clear ho hb HF
  go_wp2_with fail
  go_ret
  exact ⟨_, rfl, HR.out⟩

theorem rMay_w (m : MaD) (w : World) : Calls Tryz.prog 50 #[m.val] w fun e w' => e = .returned (.bool (mayM m)) ∧ Below w.heap.size w w' := by
  obtain ⟨W, eW⟩ : ∃ W, W = w.alloc (.cells #[.int .u32 m.boot, .int .u32 m.acc, .int .u32 m.cur, .int .i64 m.snap, .int .i64 m.log] 35) := ⟨_, rfl⟩
  have HB : Hid (Below w.heap.size w W) := by rw [eW]; exact one_allocK _ _
  rw [eW] at HB
  clear eW
  unfold mayM
  by_cases h1 : m.cur ≤ m.acc
  · have d1 : decide (m.cur ≤ m.acc) = true := decide_eq_true h1
    by_cases h2 : m.acc ≤ 2147483647
    · have d2 : decide (m.acc ≤ 2147483647) = true := decide_eq_true h2
      by_cases h3 : 0 ≤ m.snap
      · have d3 : decide (0 ≤ m.snap) = true := decide_eq_true h3
        have d3' : decide (m.snap ≥ 0) = true := decide_eq_true h3
        have d4' : decide (m.log ≥ 0) = decide (0 ≤ m.log) := rfl
        rw [d1, d2, d3]
        obtain ⟨boot, acc, cur, snap, log⟩ := m
        simp only at *
        go_enter Tryz.func50, Tryz.ntmps50
        go_wp2_with fail
        go_ret
        exact ⟨by simp, HB.out⟩
      · have d3 : decide (0 ≤ m.snap) = false := decide_eq_false h3
        have d3' : decide (m.snap ≥ 0) = false := decide_eq_false h3
        rw [d1, d2, d3]
        obtain ⟨boot, acc, cur, snap, log⟩ := m
        simp only at *
        go_enter Tryz.func50, Tryz.ntmps50
        go_wp2_with fail
        go_ret
        exact ⟨by simp, HB.out⟩
    · have d2 : decide (m.acc ≤ 2147483647) = false := decide_eq_false h2
      rw [d1, d2]
      obtain ⟨boot, acc, cur, snap, log⟩ := m
      simp only at *
      go_enter Tryz.func50, Tryz.ntmps50
      go_wp2_with fail
      go_ret
      exact ⟨by simp, HB.out⟩
  · have d1 : decide (m.cur ≤ m.acc) = false := decide_eq_false h1
    rw [d1]
    obtain ⟨boot, acc, cur, snap, log⟩ := m
    simp only at *
    go_enter Tryz.func50, Tryz.ntmps50
    go_wp2_with fail
    go_ret
    exact ⟨by simp, HB.out⟩

end Go.Proofs.YtdbphdllibffnaaGreat

/- The document's own Reader (lagoonref01): what it is in memory, and its reading of numbers. -/
namespace Go.Proofs.YtdbphdllibffnaaGreat
open Go.RowKit
set_option maxRecDepth 8000

/-- The document's Reader at block g: its bytes bs, of which p are read, and its fault. -/
def IsQ (w : World) (g : Nat) (v : Value) (bs : List Int) (p : Nat) (f : Int) : Prop :=
  w.heap[g]? = some (.cells #[v, .int .i64 p, .int .i64 f] 161 (0, 0)) ∧ Sees w v bs ∧ p ≤ bs.length ∧ bs.length ≤ 70000000000000 ∧ (bs ≠ [] → v.ownBlock ≠ some g)

/-- What a call of it leaves. -/
def QTo (w : World) (g : Nat) (v : Value) (bs : List Int) (s : Rd) (w' : World) : Prop := ∃ p, bs.drop p = s.rest ∧ IsQ w' g v bs p s.fault ∧ Kept w w' (· = g)

section
variable {w w' : World} {g : Nat} {v : Value} {bs : List Int} {p : Nat} {f : Int}

theorem IsQ.c0 (h : IsQ w g v bs p f) : w.cell? ⟨g, 0, none⟩ = some v := by rw [cell_of_row w g 0 _ _ _ h.1]; rfl
theorem IsQ.c1 (h : IsQ w g v bs p f) : w.cell? ⟨g, 1, none⟩ = some (.int .i64 p) := by rw [cell_of_row w g 1 _ _ _ h.1]; rfl
theorem IsQ.c2 (h : IsQ w g v bs p f) : w.cell? ⟨g, 2, none⟩ = some (.int .i64 f) := by rw [cell_of_row w g 2 _ _ _ h.1]; rfl
theorem IsQ.fr (h : IsQ w g v bs p f) (j : Nat) : w.frozen? ⟨g, j, none⟩ = false := frozen_of_row w g j _ _ h.1

theorem IsQ.kept {S : Nat → Prop} (h : IsQ w g v bs p f) (hk : Kept w w' S) (hg : ¬ S g) (hv : ∀ k, v.ownBlock = some k → ¬ S k) : IsQ w' g v bs p f :=
  ⟨hk.heap h.1 hg, h.2.1.kept hk hv, h.2.2⟩

theorem IsQ.set1 (h : IsQ w g v bs p f) {q : Nat} (hq : q ≤ bs.length) : IsQ (w.setCell ⟨g, 1, none⟩ (.int .i64 q)) g v bs q f := by
  refine ⟨?_, h.2.1.set _ _ h.2.2.2.2, hq, h.2.2.2⟩
  rw [setCell_eq_setRow w g 1 _ _ _ _ h.1, setRow_heap w g _ _ _ _ h.1]; rfl
theorem IsQ.set2 (h : IsQ w g v bs p f) (e : Int) : IsQ (w.setCell ⟨g, 2, none⟩ (.int .i64 e)) g v bs p e := by
  refine ⟨?_, h.2.1.set _ _ h.2.2.2.2, h.2.2⟩
  rw [setCell_eq_setRow w g 2 _ _ _ _ h.1, setRow_heap w g _ _ _ _ h.1]; rfl

theorem QTo.stay (h : IsQ w g v bs p f) (n : Int) : QTo w g v bs ⟨n, bs.drop p, f⟩ w := ⟨p, rfl, h, Kept.refl _ _⟩
end

section
variable (g : Nat) (v : Value) (bs : List Int) (p : Nat) (f : Int) (w : World)

set_option maxHeartbeats 1000000 in
theorem qNumber_any (n : Nat) (h : IsQ w g v bs p f) (hb : Byts bs) (h8 : n ≤ 8) :
    Calls Tryz.prog 127 #[.pointer (some ⟨g, 0, none⟩), .int .i64 n] w fun e w' => e = .returned (.tuple #[.int .u64 (rdNum n (bs.drop p) f).out, .bool (decide (f = 0 ∧ n ≤ (bs.drop p).length))]) ∧ QTo w g v bs (rdNum n (bs.drop p) f) w' := by
  have c0 := h.c0
  have c1 := h.c1
  have c2 := h.c2
  have f2 := h.fr 2
  have H : Hid (IsQ w g v bs p f) := h
  obtain ⟨ao, cap, rfl, _, q2, _, h3⟩ := h.2.1
  have H3 : Hid (bs = [] ∨ ∃ b off, ao = some ⟨b, off, none⟩ ∧ ∀ i, i < bs.length → w.cell? ⟨b, off + i, none⟩ = some (.int .u8 (bs.getD i 0))) := h3
  unfold maxLen at q2
  have hp := h.2.2.1
  have hl := h.2.2.2.1
  have hdl : (bs.drop p).length = bs.length - p := List.length_drop ..
  clear h h3
  by_cases hf : f = 0
  · subst hf
    by_cases hs : bs.length - p < n
    · have e1 : rdNum n (bs.drop p) 0 = ⟨0, bs.drop p, 10⟩ := by unfold rdNum; rw [if_neg (by simp), if_pos (by omega)]
      have e2 : decide ((0 : Int) = 0 ∧ n ≤ (bs.drop p).length) = false := by simp; omega
      rw [e1, e2]
      clear e1 e2
      have hb1 : decide ((bs.length : Int) - (p : Int) < (n : Int)) = true := by simp; omega
      go_enter Tryz.func127, Tryz.ntmps127
      go_wp2
      go_quiet (fail)
      go_wp2
      go_ret2
      exact ⟨rfl, p, rfl, (H.out.kept ((Kept.refl w (fun _ => False)).drewN nq) (fun h => h) (fun _ _ h => h)).set2 10, ((Kept.refl w _).drewN nq).setCell _ _ (fun _ => rfl)⟩
    · have e1 : rdNum n (bs.drop p) 0 = ⟨num ((bs.drop p).take n), (bs.drop p).drop n, 0⟩ := by unfold rdNum; rw [if_neg (by simp), if_neg (by omega)]
      have e2 : decide ((0 : Int) = 0 ∧ n ≤ (bs.drop p).length) = true := by simp; omega
      rw [e1, e2]
      clear e1 e2
      have hb1 : decide ((bs.length : Int) - (p : Int) < (n : Int)) = false := by simp; omega
      have hbd : Byts (bs.drop p) := fun x hx => hb x (List.mem_of_mem_drop hx)
      go_enter Tryz.func127, Tryz.ntmps127
      go_wp2
      go_quiet (fail)
      go_wp2
      go_loopw [6, 7] (fun nv iv wr => ∃ k : Nat, k ≤ n ∧ iv = .int .i64 k ∧ nv = .int .u64 (num ((bs.drop p).take k)) ∧ IsQ wr g (.slice ao bs.length cap) bs (p + k) 0 ∧ Kept w wr (· = g)) (fun _ iv _ => n - (intOf iv).toNat)
      case atStart => exact ⟨0, Nat.zero_le _, rfl, rfl, H.out.kept ((Kept.refl w (fun _ => False)).drewN nq) (fun h => h) (fun _ _ h => h), (Kept.refl w _).drewN nq⟩
      case round =>
        obtain ⟨k, hk, rfl, rfl, hQ, hK⟩ := hrel
        have HQ : Hid (IsQ wr g (.slice ao bs.length cap) bs (p + k) 0 ∧ Kept w wr (· = g)) := ⟨hQ, hK⟩
        by_cases hlt : k < n
        · rcases hQ.2.1 with ⟨ao', cap', e, _, _, _, h3⟩
          simp only [Value.slice.injEq, true_and] at e
          obtain ⟨rfl, rfl⟩ := e
          rcases h3 with h3 | ⟨b, off, rfl, h3⟩
          · have h0 : bs.length = 0 := by rw [h3]; rfl
            omega
          have hc := h3 (p + k) (by omega)
          have d0 := hQ.c0
          have d1 := hQ.c1
          have df := hQ.fr 1
          have hx := hb.nth (p + k)
          have hd := num_bd8 ((bs.drop p).take n) (fun x hx => hbd x (List.mem_of_mem_take hx)) k (by rw [List.length_take]; omega) (by rw [List.length_take]; omega)
          rw [List.take_take, Nat.min_eq_left (by omega)] at hd
          have hnx := num_next (bs.drop p) k (by omega)
          have hgx : (bs.drop p).getD k 0 = bs.getD (p + k) 0 := by simp [List.getD_eq_getElem?_getD]
          rw [hgx] at hnx
          have HS : Hid _ := hnx
          generalize bs.getD (p + k) 0 = x at *
          generalize hA : num ((bs.drop p).take k) = A at *
          clear hA h3 hnx hgx hQ hK c0 c1 c2 f2 hbd
          go_wp2
          go_quiet (fail)
          go_wp2
          go_roundw
          case rel =>
            have hq := (HQ.out.1.kept ((Kept.refl wr (fun _ => False)).drewN nq) (fun h => h) (fun _ _ h => h)).set1 (q := p + (k + 1)) (by omega)
            have e : ((p + (k + 1) : Nat) : Int) = (p : Int) + (k : Int) + 1 := by omega
            rw [e] at hq
            exact ⟨k + 1, by omega, by go_num, by rw [HS.out], hq, (HQ.out.2.drewN nq).setCell _ _ (fun _ => rfl)⟩
          case measure => simp [intOf]; omega
        · obtain rfl : k = n := by omega
          go_wp2
          go_ret2
          exact ⟨rfl, p + k, by rw [List.drop_drop], HQ.out⟩
  · have e1 : rdNum n (bs.drop p) f = ⟨0, bs.drop p, f⟩ := by unfold rdNum; rw [if_pos hf]
    have e2 : decide (f = 0 ∧ n ≤ (bs.drop p).length) = false := by simp [hf]
    rw [e1, e2]
    have hb3 : (f != 0) = true := by simp [hf]
    clear hf e1 e2
    go_enter Tryz.func127, Tryz.ntmps127
    go_wp2
    go_ret2
    exact ⟨rfl, QTo.stay H.out 0⟩

theorem qUint32_any (h : IsQ w g v bs p f) (hb : Byts bs) : Calls Tryz.prog 106 #[.pointer (some ⟨g, 0, none⟩)] w fun e w' => e = .returned (.int .u32 (id (rdNum 4 (bs.drop p) f).out)) ∧ QTo w g v bs (rdNum 4 (bs.drop p) f) w' := by
  have H : Hid (IsQ w g v bs p f) := h
  have hbd : Byts (bs.drop p) := fun x hx => hb x (List.mem_of_mem_drop hx)
  have hx := rdNum_bd 4 (bs.drop p) f hbd
  have h1 : (256 : Int) ^ 4 = 4294967296 := by decide
  rw [h1] at hx
  clear h h1 hbd
  go_enter Tryz.func106, Tryz.ntmps106
  go_wp2_with fail
  refine (qNumber_any g v bs p f _ 4 H.out hb (by omega)).mono ?_
  rintro e w1 ⟨rfl, hq⟩
  have HQ : Hid (QTo w g v bs (rdNum 4 (bs.drop p) f) w1) := hq
  clear hq
  generalize hY : (rdNum 4 (bs.drop p) f).out = y at *
  have HY : Hid ((rdNum 4 (bs.drop p) f).out = y) := hY
  clear hY
  generalize decide (f = 0 ∧ 4 ≤ (bs.drop p).length) = t at *
  go_wp2
  go_ret
  refine ⟨?_, HQ.out⟩
  rw [HY.out]
  rfl

end
end Go.Proofs.YtdbphdllibffnaaGreat

/- The document's own Reader (lagoonref01): Int64. -/
namespace Go.Proofs.YtdbphdllibffnaaGreat
open Go.RowKit
set_option maxRecDepth 8000

theorem wrap64_idR {n : Int} (h0 : -9223372036854775808 ≤ n) (h1 : n ≤ 9223372036854775807) : wrap64 n = n := by unfold wrap64; omega

section
variable (g : Nat) (v : Value) (bs : List Int) (p : Nat) (f : Int) (w : World)

set_option maxHeartbeats 400000 in
theorem qInt64_any (h : IsQ w g v bs p f) (hb : Byts bs) : Calls Tryz.prog 107 #[.pointer (some ⟨g, 0, none⟩)] w fun e w' => e = .returned (.int .i64 (wrap64 (rdNum 8 (bs.drop p) f).out)) ∧ QTo w g v bs (rdNum 8 (bs.drop p) f) w' := by
  have H : Hid (IsQ w g v bs p f) := h
  have hbd : Byts (bs.drop p) := fun x hx => hb x (List.mem_of_mem_drop hx)
  have hx := rdNum_bd 8 (bs.drop p) f hbd
  have h1 : (256 : Int) ^ 8 = 18446744073709551616 := by decide
  rw [h1] at hx
  clear h h1 hbd
  go_enter Tryz.func107, Tryz.ntmps107
  go_wp2_with fail
  refine (qNumber_any g v bs p f _ 8 H.out hb (by omega)).mono ?_
  rintro e w1 ⟨rfl, hq⟩
  have HQ : Hid (QTo w g v bs (rdNum 8 (bs.drop p) f) w1) := hq
  clear hq
  generalize hY : (rdNum 8 (bs.drop p) f).out = y at *
  have HY : Hid ((rdNum 8 (bs.drop p) f).out = y) := hY
  clear hY
  generalize decide (f = 0 ∧ 8 ≤ (bs.drop p).length) = t at *
  by_cases hy : 9223372036854775807 < y
  · go_wp2
    go_ret
    refine ⟨?_, HQ.out⟩
    rw [HY.out]
    have e : wrap64 y = y - 18446744073709551616 := by unfold wrap64; omega
    rw [e]
    have e2 : -1 - (18446744073709551615 - y) = y - 18446744073709551616 := by omega
    show Ending.returned (.int .i64 (-1 - (18446744073709551615 - y))) = _
    rw [e2]
  · go_wp2
    go_ret
    refine ⟨?_, HQ.out⟩
    rw [HY.out, wrap64_idR (by omega) (by omega)]
    rfl

end
end Go.Proofs.YtdbphdllibffnaaGreat

/- lagoonref11.Read of any bytes: the manifest whose bytes they are, or ErrMani. -/
namespace Go.Proofs.YtdbphdllibffnaaGreat
open Go.RowKit Go.Shelf
set_option maxRecDepth 8000

set_option maxHeartbeats 400000 in
theorem refNew_m (v : Value) (bs : List Int) (w : World) (h : Sees w v bs) (hl : bs.length ≤ 1000) :
    Calls Tryz.prog 105 #[v] w fun e w' => ∃ g v', e = .returned (.pointer (some ⟨g, 0, none⟩)) ∧ IsQ w' g v' bs 0 0 ∧ w.heap.size ≤ g ∧ (∀ k, v'.ownBlock = some k → w.heap.size ≤ k ∧ k < g) ∧ Below w.heap.size w w' := by
  have H : Hid (Sees w v bs ∧ bs.length ≤ 1000) := ⟨h, hl⟩
  clear h hl
  go_enter Tryz.func105, Tryz.ntmps105
  go_wp2_with fail
  refine (copyBytes_any _ bs _ H.out.1 (by have := H.out.2; omega)).mono ?_
  rintro e w1 ⟨v1, rfl, ho, hb⟩
  obtain ⟨a0, a1, a2, rfl⟩ : ∃ a n c, v1 = .slice a n c := by obtain ⟨a, c, e, _⟩ := Sees.own ho; exact ⟨a, _, c, e⟩
  have HB : Hid (Owns w1 w.heap.size (.slice a0 a1 a2) bs ∧ Below w.heap.size w w1) := ⟨ho, hb⟩
  clear ho hb
  go_wp2_with fail
  go_ret
  refine ⟨_, .slice a0 a1 a2, rfl, ⟨heap_alloc_new _ _, (Sees.own HB.out.1).below (one_allocK _ _) (Nat.le_refl _), Nat.zero_le _, by have := H.out.2; omega, fun _ e => ?_⟩, HB.out.2.size, fun k e => HB.out.1.lt k e, HB.out.2.alloc HB.out.2.size _⟩
  have := (HB.out.1.lt _ e).2
  omega

abbrev zeroR : Array Value := #[.int .u32 0, .int .u32 0, .int .u32 0, .int .i64 0, .int .i64 0]

/-- The document's Reader in a state, the manifest that is filled beside it. -/
structure QS (w W : World) (g q : Nat) (v : Value) (bs : List Int) (st : List Int × Int) (cs : Array Value) : Prop where
  bel : Below w.heap.size w W
  r0 : W.heap[w.heap.size]? = some (.cells zeroR 35 (0, 0))
  rq : W.heap[q]? = some (.cells cs 35 (0, 0))
  rd : ∃ p, IsQ W g v bs p st.2 ∧ bs.drop p = st.1
  ne : g ≠ q ∧ w.heap.size < g ∧ w.heap.size < q
  vq : ∀ k, v.ownBlock = some k → k ≠ q ∧ w.heap.size < k

theorem QS.to {w W W' : World} {g q : Nat} {v : Value} {bs : List Int} {st : List Int × Int} {cs : Array Value} (h : QS w W g q v bs st cs) {s : Rd} (k : QTo W g v bs s W') : QS w W' g q v bs (s.rest, s.fault) cs := by
  obtain ⟨p, e, i, kp⟩ := k
  have hn := h.ne
  exact ⟨h.bel.trans (kp.below h.bel.size (fun k e => by omega)), kp.heap h.r0 (fun e => by omega), kp.heap h.rq (fun e => hn.1 e.symm), ⟨p, i, e⟩, hn, h.vq⟩

theorem QS.set {w W : World} {g q : Nat} {v : Value} {bs : List Int} {st : List Int × Int} {cs : Array Value} (h : QS w W g q v bs st cs) (i : Nat) (x : Value) : QS w (W.setCell ⟨q, i, none⟩ x) g q v bs st (cs.setIfInBounds i x) := by
  have kp : Kept W (W.setCell ⟨q, i, none⟩ x) (fun k => k = q) := Kept.setCell (Kept.refl _ _) ⟨q, i, none⟩ x (fun _ => rfl)
  have hn := h.ne
  obtain ⟨p, hp, e⟩ := h.rd
  exact ⟨h.bel.trans (kp.below h.bel.size (fun k e => by omega)), kp.heap h.r0 (fun e => by omega), heap_setK x h.rq, ⟨p, hp.kept kp hn.1 (fun k e => (h.vq k e).1), e⟩, hn, h.vq⟩

theorem QS.later {w W W' : World} {g q : Nat} {v : Value} {bs : List Int} {st : List Int × Int} {cs : Array Value} (h : QS w W g q v bs st cs) (k : Below W.heap.size W W') : QS w W' g q v bs st cs := by
  have l0 := lt_of_block h.r0
  have l1 := lt_of_block h.rq
  obtain ⟨p, hp, e⟩ := h.rd
  have l2 := lt_of_block hp.1
  refine ⟨h.bel.trans (k.mono h.bel.size), (Below.kept k).heap h.r0 (fun e => by omega), (Below.kept k).heap h.rq (fun e => by omega), ⟨p, ?_, e⟩, h.ne, h.vq⟩
  exact ⟨(Below.kept k).heap hp.1 (fun e => by omega), hp.2.1.below k (Nat.le_refl _), hp.2.2⟩

theorem QS.u32 {w W : World} {g q : Nat} {v : Value} {bs : List Int} {st : List Int × Int} {cs : Array Value} (h : QS w W g q v bs st cs) (hb : Byts bs) :
    Calls Tryz.prog 106 #[.pointer (some ⟨g, 0, none⟩)] W fun e w' => e = .returned (.int .u32 (rdNum 4 st.1 st.2).out) ∧ QS w w' g q v bs ((rdNum 4 st.1 st.2).rest, (rdNum 4 st.1 st.2).fault) cs := by
  obtain ⟨p, hp, e⟩ := h.rd
  refine (qUint32_any g v bs p st.2 W hp hb).mono ?_
  rintro _ w' ⟨rfl, k⟩
  rw [e] at k
  exact ⟨by rw [e]; rfl, h.to k⟩

theorem QS.i64 {w W : World} {g q : Nat} {v : Value} {bs : List Int} {st : List Int × Int} {cs : Array Value} (h : QS w W g q v bs st cs) (hb : Byts bs) :
    Calls Tryz.prog 107 #[.pointer (some ⟨g, 0, none⟩)] W fun e w' => e = .returned (.int .i64 (wrap64 (rdNum 8 st.1 st.2).out)) ∧ QS w w' g q v bs ((rdNum 8 st.1 st.2).rest, (rdNum 8 st.1 st.2).fault) cs := by
  obtain ⟨p, hp, e⟩ := h.rd
  refine (qInt64_any g v bs p st.2 W hp hb).mono ?_
  rintro _ w' ⟨rfl, k⟩
  rw [e] at k
  exact ⟨by rw [e], h.to k⟩
end Go.Proofs.YtdbphdllibffnaaGreat
