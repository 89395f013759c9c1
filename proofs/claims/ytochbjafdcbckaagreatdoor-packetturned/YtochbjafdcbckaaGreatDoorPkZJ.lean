/- PacketTurned of the statements of layer 15, walked: true for all that came in. -/
import Derived.Test.YtochbjafdcbckaaGreatDoorPkYJ
import Derived.Test.YtochbjafdcbckaaGreatDoorWdRJ
import Derived.Test.YtochbjafdcbckaaGreatDoorPkUJ
import Derived.Test.YtochbjafdcbckaaGreatDoorPkVJ
namespace Go.Proofs.YtochbjafdcbckaaGreatDoor
open Go.RowKit
set_option maxRecDepth 8000

/-- What the walk has in hand: the packet in its box. -/
structure TuH (w : World) (p : PkD) (tc : List Value) (bv : Value) (W : World) : Prop where
  h : PkH w p tc bv W
  lt : w.heap.size < W.heap.size

theorem PkH.row {w W : World} {p : PkD} {tc : List Value} {bv : Value} (h : PkH w p tc bv W) : W.heap[w.heap.size]? = some (.cells (pkL p tc bv).toArray 39 (0, 0)) := h.at_

theorem owns_at15 {w : World} {B : Nat} {v : Value} {xs : List Int} (h : Owns w B v xs) (hx : xs ≠ []) : ∃ g c, v = .slice (some ⟨g, 0, none⟩) xs.length c := by
  rcases h.2 with ⟨_, h0⟩ | ⟨g, cap, cur, rfl, _⟩
  · exact absurd (List.eq_nil_of_length_eq_zero h0) hx
  · exact ⟨g, cap, rfl⟩

set_option maxHeartbeats 8000000 in
theorem turned_walk15 (p : PkD) (tc : List Value) (bv : Value) (place by_ : Int) (w : World) (hn : Nam w) (hp : PNam w) (hg : p.good) (hs : SeesPk w tc bv p) (b0 : 0 ≤ by_) (b1 : by_ ≤ 255) :
    Calls Tryz.prog 3 #[.agg (pkL p tc bv).toArray, .int .i64 place, .int .u8 by_] w fun r w' => r = .returned (.bool true) ∧ Below w.heap.size w w' := by
  obtain ⟨tz, HZ⟩ : ∃ tz : Bool, Hid (tz = true ↔ p.tx = txN) := by
    by_cases h : p.tx = txN
    · exact ⟨true, fun _ => h, fun _ => rfl⟩
    · exact ⟨false, fun e => (by cases e), fun e => absurd e h⟩
  have q32 := pkSz p tc bv hs.tx.len
  obtain ⟨W, hW⟩ : ∃ W, W = w.alloc (.cells (pkL p tc bv).toArray 39) := ⟨_, rfl⟩
  have HW : Hid (PkH w p tc bv W) := by rw [hW]; exact PkH.box hs hn hp
  have HG : Hid (p.good ∧ (0 ≤ by_ ∧ by_ ≤ 255) ∧ Byts p.bys) := ⟨hg, ⟨b0, b1⟩, hs.byt⟩
  have HA : Hid _ := hW
  have HNP : Hid (Nam w ∧ PNam w) := ⟨hn, hp⟩
  clear hW hs hn hp hg
  go_enter Tryz.func3, Tryz.ntmps3
  go_upto_region 1 with fail
  rw [← HA.out]
  clear HA
  have r0 := HW.out.row
  go_wp2_with (refine wpList_load_row rfl 39 _ rfl w.heap.size rfl 39 _ (0, 0) _ r0 Tryz.underlying39 rfl q32 ?_)
  clear r0
  refine (large15 p tc bv W HG.out.1 HW.out.pk).mono ?_
  rintro _ w1 ⟨bl, rfl, e1⟩
  have H1 : Hid (PkH w p tc bv w1) := HW.out.later e1
  clear e1 HW
  cases bl
  rotate_left
  · go_wp2_with fail
    go_ret
    exact ⟨rfl, H1.out.bel⟩
  go_wp2_with fail
  refine (lives15 _ H1.out.nam H1.out.pnam).mono ?_
  rintro _ w2 ⟨rfl, e2⟩
  have H2 : Hid (PkH w p tc bv w2) := H1.out.later e2
  clear e2 H1
  have r0 := H2.out.row
  go_wp2_with (refine wpList_load_row rfl 39 _ rfl w.heap.size rfl 39 _ (0, 0) _ r0 Tryz.underlying39 rfl q32 ?_)
  clear r0
  cases hc : chkP p tz with
  | false =>
    refine (writeP_no p tc bv tz HZ.out _ HG.out.1 H2.out.pk H2.out.nam H2.out.pnam hc).mono ?_
    rintro _ w3 ⟨rfl, e3⟩
    have H3 : Hid (PkH w p tc bv w3) := H2.out.later e3
    clear e3 H2
    have r0 := H3.out.row
    go_wp2_with (refine wpList_load_row rfl 39 _ rfl w.heap.size rfl 39 _ (0, 0) _ r0 Tryz.underlying39 rfl q32 ?_)
    clear r0
    refine (refChk15 p tc bv tz HZ.out _ HG.out.1 H3.out.pk).mono ?_
    rintro _ w4 ⟨rfl, e4⟩
    have H4 : Hid (PkH w p tc bv w4) := H3.out.later e4
    rw [← chk_doc HG.out.1, hc]
    clear e4 H3 hc
    go_wp2_with fail
    go_ret
    exact ⟨rfl, H4.out.bel⟩
  | true =>
  have HC : Hid _ := hc
  clear hc
  refine (writeP_good p tc bv tz HZ.out _ HG.out.1 H2.out.pk H2.out.nam H2.out.pnam HC.out).mono ?_
  rintro _ w3 ⟨v, rfl, ho, e3⟩
  have hpos : 4 < (pkB p).length := by have := body_pos p; rw [pkB_len]; omega
  have hle : (pkB p).length ≤ 8192 := by have := body_le HC.out; rw [pkB_len]; omega
  obtain ⟨g, cp, rfl⟩ := owns_at15 ho (fun e => by rw [e] at hpos; simp at hpos)
  have H3 : Hid (PkH w p tc bv w3 ∧ Owns w3 w2.heap.size (.slice (some ⟨g, 0, none⟩) (pkB p).length cp) (pkB p) ∧ w.heap.size < w2.heap.size) := ⟨H2.out.later e3, ho, H2.out.at_.lt⟩
  obtain ⟨L, hL⟩ : ∃ L, L = (pkB p).length := ⟨_, rfl⟩
  rw [← hL] at H3 hpos hle ⊢
  have HL : Hid _ := hL
  clear e3 H2 ho hL
  have r0 := H3.out.1.row
  go_wp2_with (refine wpList_load_row rfl 39 _ rfl w.heap.size rfl 39 _ (0, 0) _ r0 Tryz.underlying39 rfl q32 ?_)
  clear r0
  refine (refChk15 p tc bv tz HZ.out _ HG.out.1 H3.out.1.pk).mono ?_
  rintro _ w4 ⟨rfl, e4⟩
  have H4 : Hid (PkH w p tc bv w4 ∧ Owns w4 w2.heap.size (.slice (some ⟨g, 0, none⟩) L cp) (pkB p) ∧ w.heap.size < w2.heap.size) := ⟨H3.out.1.later e4, by have := H3.out.2.1; rw [HL.out] at this ⊢; exact Owns.kept this (Below.kept e4) (fun k hk => by have := (H3.out.2.1.lt k hk).2; omega), H3.out.2.2⟩
  rw [← chk_doc HG.out.1, HC.out]
  clear e4 H3
  go_wp2_with fail
  refine (readP_good p tz HZ.out HG.out.1 HG.out.2.2 HC.out _ _ (by have := Sees.own H4.out.2.1; rw [HL.out] at this ⊢; exact this) H4.out.1.nam H4.out.1.pnam).mono ?_
  rintro _ w5 ⟨tc5, bv5, rfl, hpk, e5⟩
  have s5 : (w5.alloc (.cells (zPk 0) 39)).heap[w5.heap.size]? = some (.cells (zPk 0) 39 (0, 0)) := heap_alloc_new _ _
  have q32' := pkSz p tc5 bv5 hpk.sees.tx.len
  have u1p : (pkL p tc5 bv5).toArray.all (·.oneCell') = true := pk_oneS hpk.sees
  have szp : (zPk 0).size = (pkL p tc5 bv5).toArray.size := by simp [pkL, hpk.sees.tx.len]
  obtain ⟨W5, hW5⟩ : ∃ W5, W5 = (w5.alloc (.cells (zPk 0) 39)).setRow w5.heap.size (pkL p tc5 bv5).toArray := ⟨_, rfl⟩
  have H5 : Hid (PkH w p tc bv W5 ∧ Owns W5 w2.heap.size (.slice (some ⟨g, 0, none⟩) L cp) (pkB p) ∧ w.heap.size < w2.heap.size ∧ W5.heap[w5.heap.size]? = some (.cells (pkL p tc5 bv5).toArray 39 (0, 0)) ∧ SeesPk W5 tc5 bv5 p) := by
    have a := row_new w5 (zPk 0) (pkL p tc5 bv5).toArray 39
    rw [← hW5] at a
    have eb : Below w4.heap.size w4 W5 := e5.trans (a.1.mono e5.size)
    exact ⟨H4.out.1.later eb, by have := H4.out.2.1; rw [HL.out] at this ⊢; exact Owns.kept this (Below.kept eb) (fun k hk => by have := (H4.out.2.1.lt k hk).2; omega), H4.out.2.2, a.2, hpk.sees.below a.1 (Nat.le_refl _)⟩
  have HA5 : Hid _ := hW5
  clear hW5 hpk e5 H4
  go_upto_region 10 with (refine wpList_store_row rfl 39 _ _ rfl w5.heap.size (pkL p tc5 bv5).toArray rfl rfl 39 _ s5 q32' szp u1p ?_)
  rw [← HA5.out]
  clear HA5 s5
  have r1 := H5.out.1.row
  have r2 := H5.out.2.2.2.1
  go_wp2_with (first | (refine load_rowG (by kernel_rfl) 39 _ rfl w.heap.size rfl 39 _ (0, 0) _ r1 Tryz.underlying39 rfl q32 ?_) | (refine load_rowG (by kernel_rfl) 39 _ rfl w5.heap.size rfl 39 _ (0, 0) _ r2 Tryz.underlying39 rfl q32' ?_))
  clear r1 r2
  refine (eqPk_same p tc tc5 bv bv5 _ H5.out.1.pk H5.out.2.2.2.2).mono ?_
  rintro _ w6 ⟨rfl, e6⟩
  have H6 : Hid (PkH w p tc bv w6 ∧ Owns w6 w2.heap.size (.slice (some ⟨g, 0, none⟩) L cp) (pkB p) ∧ w.heap.size < w2.heap.size) := ⟨H5.out.1.later e6, by have := H5.out.2.1; rw [HL.out] at this ⊢; exact Owns.kept this (Below.kept e6) (fun k hk => by have := (H5.out.2.1.lt k hk).2; omega), H5.out.2.2.1⟩
  clear e6 H5 q32' u1p szp
  by_cases z : by_ = 0
  · have z' : (by_ == 0) = true := by simp [z]
    clear z
    go_wp2_with fail
    go_ret
    exact ⟨rfl, H6.out.1.bel⟩
  have z' : (by_ == 0) = false := by simp [z]
  by_cases pl : place < 0
  · have pl' : decide (place < 0) = true := decide_eq_true pl
    go_wp2_with fail
    go_ret
    exact ⟨rfl, H6.out.1.bel⟩
  have pl' : decide (place < 0) = false := decide_eq_false pl
  by_cases pu : (L : Int) ≤ place
  · have pu' : decide ((L : Int) ≤ place) = true := decide_eq_true pu
    go_wp2_with fail
    go_ret
    exact ⟨rfl, H6.out.1.bel⟩
  have pu' : decide ((L : Int) ≤ place) = false := decide_eq_false pu
  obtain ⟨k, rfl⟩ : ∃ k : Nat, place = k := ⟨place.toNat, by omega⟩
  have hkL : k < L := by omega
  have hk2 : k < (pkB p).length := by rw [← HL.out]; exact hkL
  have ho6 : Owns w6 w2.heap.size (.slice (some ⟨g, 0, none⟩) (pkB p).length cp) (pkB p) := by have := H6.out.2.1; rw [HL.out] at this; exact this
  obtain ⟨x, hx⟩ : ∃ x, x = (pkB p).getD k 0 := ⟨_, rfl⟩
  have c1 : w6.cell? ⟨g, k, none⟩ = some (.int .u8 x) := by rw [hx]; exact owns_cell ho6 k hk2
  have f1 : w6.frozen? ⟨g, k, none⟩ = false := ho6.frozenAt k
  have hbb := body_byts p HG.out.1 HG.out.2.2 (chk_all HC.out)
  obtain ⟨s, ys, es, hby, hyl, hne⟩ := turn_split (bodyP p) k by_ hbb (by rw [pkB_len] at hk2; exact hk2) (by omega) HG.out.2.1.2
  rw [show be4 (adler (bodyP p)) ++ bodyP p = pkB p from rfl, ← hx] at es
  obtain ⟨W7, hW7⟩ : ∃ W7, W7 = w6.setCell ⟨g, k, none⟩ (.int .u8 (bits .xor .u8 x by_)) := ⟨_, rfl⟩
  have hgl : w.heap.size < g := by have := (ho6.lt g rfl).1; have := H6.out.2.2; omega
  have H7 : Hid (Below w.heap.size w W7 ∧ Nam W7 ∧ PNam W7 ∧ Sees W7 (.slice (some ⟨g, 0, none⟩) L cp) (be4 s ++ ys) ∧ Byts (be4 s ++ ys) ∧ ys ≠ [] ∧ ys.length ≤ 8188 ∧ s ≠ adler ys) := by
    have k7 : Kept w6 W7 (fun q => q = g) := by rw [hW7]; exact (Kept.refl w6 (fun q => q = g)).setCell ⟨g, k, none⟩ _ (fun _ => rfl)
    have hb7 : Below w.heap.size w W7 := H6.out.1.bel.trans (k7.below H6.out.1.bel.size (fun q e => by omega))
    have o7 := Sees.own (owns_set ho6 k (bits .xor .u8 x by_)).1
    rw [← hW7, es] at o7
    have hl2 : (be4 s ++ ys).length = L := by rw [HL.out, pkB_len, List.length_append, hyl]; simp [be4]
    rw [hl2] at o7
    have := body_pos p
    have := body_le HC.out
    exact ⟨hb7, HNP.out.1.below hb7 HNP.out.1.lt, HNP.out.2.below hb7 HNP.out.2.lt, o7, hby, fun e => by rw [e] at hyl; simp at hyl; omega, by omega, hne⟩
  have HA7 : Hid _ := hW7
  clear hW7 es hby hyl hne hbb hx ho6 HC HNP HG HZ H6 q32 hgl hk2
  go_upto_region 15 with fail
  rw [← HA7.out]
  clear HA7 c1 f1
  go_wp2_with fail
  refine (readP_sum s ys H7.out.2.2.2.2.1 H7.out.2.2.2.2.2.1 H7.out.2.2.2.2.2.2.1 H7.out.2.2.2.2.2.2.2 _ W7 H7.out.2.2.2.1 H7.out.2.1 H7.out.2.2.1).mono ?_
  rintro _ w8 ⟨rfl, e8⟩
  have s8 : (w8.alloc (.cells (zPk 0) 39)).heap[w8.heap.size]? = some (.cells (zPk 0) 39 (0, 0)) := heap_alloc_new _ _
  have q32z : (Tryz.prog.info? 39).map (·.size) = some (zPk 0).size := pkSz0
  have u1z : (zPk 0).all (·.oneCell') = true := by simp [Value.oneCell']
  obtain ⟨szn, hszn⟩ : ∃ n, n = (zPk 0).size := ⟨_, rfl⟩
  obtain ⟨W9, hW9⟩ : ∃ W9, W9 = (w8.alloc (.cells (zPk 0) 39)).setRow w8.heap.size (zPk 0) := ⟨_, rfl⟩
  have H9 : Hid (Below w.heap.size w W9 ∧ W9.heap[w8.heap.size]? = some (.cells (zPk 0) 39 (0, 0))) := by
    have a := row_new w8 (zPk 0) (zPk 0) 39
    rw [← hW9] at a
    have hb : Below w.heap.size w w8 := H7.out.1.trans (e8.mono H7.out.1.size)
    exact ⟨hb.trans (a.1.mono hb.size), a.2⟩
  have HA9 : Hid _ := hW9
  clear hW9 e8 H7 hszn szn
  go_upto_region 16 with (refine wpList_store_row rfl 39 _ _ rfl w8.heap.size (zPk 0) rfl rfl 39 _ s8 q32z rfl u1z ?_)
  rw [← HA9.out]
  clear HA9 s8
  have r9 := H9.out.2
  go_wp2_with (refine load_rowG (by kernel_rfl) 39 _ rfl w8.heap.size rfl 39 _ (0, 0) _ r9 Tryz.underlying39 rfl q32z ?_)
  clear r9
  refine (eqPk_zero _).mono ?_
  rintro _ w10 ⟨rfl, e10⟩
  have H10 : Hid (Below w.heap.size w w10) := H9.out.1.trans (e10.mono H9.out.1.size)
  clear e10 H9
  go_wp2_with fail
  go_ret
  exact ⟨rfl, H10.out⟩
end Go.Proofs.YtochbjafdcbckaaGreatDoor
