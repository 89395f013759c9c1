/- Two things that were told are the same; a list of bytes within a row is written over. -/
import Derived.Test.YtblgipjipeaemaaGreatDoorRzDJ
import Derived.Test.YtblgipjipeaemaaGreatDoorTells2J
namespace Go.Proofs.YtblgipjipeaemaaGreatDoor
open Go.RowKit
set_option maxRecDepth 8000
theorem errItem (xs : Array Value) (is : List Nat) (i : Nat) (a : Int) (w : World) (ha : xs[i]? = some (.int .i64 a)) :
    (Op.eqItems 9999 47 1 xs xs (i :: is)).run Tryz.prog w = (Op.eqItems 9999 47 1 xs xs is).run Tryz.prog w := by
  have he : Tryz.prog.plainKey 47 = true := by kernel_rfl
  have p1 : (part 47 xs (i * 1)).run Tryz.prog w = .ok (.int .i64 a) w := run_part_plain w he (by rw [Nat.mul_one]; exact ha)
  have q : (Op.equalIn 9999 47 (.int .i64 a) (.int .i64 a)).run Tryz.prog w = .ok (a == a) w := run_equalIn_int w 9998 47 .i64 .i64 a a Tryz.underlying47
  simp only [Op.eqItems, Sem.run_bind, p1, q, Result.andThen_ok]
  simp
theorem Tryz.infoErr : (Tryz.prog.info? 47).map (fun i => (i.zero, i.size, i.bytes)) = some (some (.int .i64 0), 1, 8) := by kernel_rfl
theorem errs_same (e0 e1 : Int) (w : World) : (Op.equalIn 10000 74 (.agg #[.int .i64 e0, .int .i64 e1]) (.agg #[.int .i64 e0, .int .i64 e1])).run Tryz.prog w = .ok true w := by
  obtain ⟨i0, hi, hz0, hz1, hz2⟩ := info_parts Tryz.infoErr
  have hu := Tryz.underlying74
  have hc : Tryz.prog.cellsOf 47 = 1 := by kernel_rfl
  rw [show (10000 : Nat) = 9999 + 1 from rfl, run_equalIn_array w 9999 _ _ hu hi, hc]
  rw [show List.range 2 = [0, 1] from rfl, errItem _ _ 0 e0 w rfl, errItem _ _ 1 e1 w rfl]
  rfl

namespace Rz

set_option maxHeartbeats 1000000 in
theorem same_any (b : Bool) (n : Int) (x y : Nat) (s : ByteArray) (u u' : Value) (e0 e1 : Int) (ys : List Int) (w : World) (hx : x < 18446744073709551616) (hf : FlOf x y) (hu : Sees w u ys) (hu' : Sees w u' ys) :
    Calls Tryz.prog 21 #[.agg (told b n x s u e0 e1), .agg (told b n y s u' e0 e1)] w fun e w' => e = .returned (.bool true) ∧ Kept w w' (fun _ => False) := by
  have HU : Hid (Sees w u ys ∧ Sees w u' ys ∧ FlOf x y ∧ x < 18446744073709551616) := ⟨hu, hu', hf, hx⟩
  obtain ⟨ua, un, uc, rfl⟩ := sees_shape hu
  obtain ⟨va, vn, vc, rfl⟩ := sees_shape hu'
  clear hu hu' hf hx
  go_enter Tryz.func21, Tryz.ntmps21
  go_wp2_with fail
  refine (eqFloats_fl x y HU.out.2.2.2 HU.out.2.2.1 _).mono ?_
  rintro e w1 ⟨rfl, rfl⟩
  go_wp2_with fail
  have hk0 : Kept w ((w.alloc (.cells (told b n x s (.slice ua un uc) e0 e1) 76)).alloc (.cells (told b n y s (.slice va vn vc) e0 e1) 76)) (fun _ => False) := ((Kept.refl w _).alloc _).alloc _
  refine (eqBytes_any _ _ ys ys _ (HU.out.1.kept hk0 (fun _ _ h => h)) (HU.out.2.1.kept hk0 (fun _ _ h => h))).mono ?_
  rintro e w2 ⟨rfl, n2, hw2⟩
  have ed : decide (ys = ys) = true := decide_eq_true rfl
  rw [ed]
  clear ed
  have hk : Kept ((w.alloc (.cells (told b n x s (.slice ua un uc) e0 e1) 76)).alloc (.cells (told b n y s (.slice va vn vc) e0 e1) 76)) w2 (fun _ => False) := by rw [hw2]; exact (Kept.refl _ _).drewN _
  have hA := hk.heap (((Kept.refl (w.alloc (.cells (told b n x s (.slice ua un uc) e0 e1) 76)) (fun _ => False)).alloc (.cells (told b n y s (.slice va vn vc) e0 e1) 76)).heap (heap_alloc_new w _) (fun h => h)) (fun h => h)
  have hB := hk.heap (heap_alloc_new (w.alloc (.cells (told b n x s (.slice ua un uc) e0 e1) 76)) (.cells (told b n y s (.slice va vn vc) e0 e1) 76)) (fun h => h)
  have hz1 : (w.alloc (.cells (told b n x s (.slice ua un uc) e0 e1) 76)).heap.size = w.heap.size + 1 := by simp
  rw [hz1] at hB
  have HB : Hid (Kept w w2 (fun _ => False)) := hk0.trans hk (fun _ _ h => h)
  obtain ⟨_, _, _, _, _, a5, a6, _⟩ := row7 hA
  obtain ⟨_, _, _, _, _, b5, b6, _⟩ := row7 hB
  clear hk hA hB hw2 hk0 hz1
  have heq := errs_same e0 e1 w2
  go_wp2
  go_ret
  exact ⟨rfl, HB.out⟩

/-- A list of bytes within a row is written over: no other cell is turned. -/
theorem spoil_at (k off n cap : Nat) (cs : Array Value) (w : World) (hr : w.heap[k]? = some (.cells cs 5 (0, 0))) (hs : off + n ≤ cs.size) (hm : n ≤ 70000000000000) :
    Calls Tryz.prog 22 #[.slice (some ⟨k, off, none⟩) n cap] w fun e w' => e = .returned (.tuple #[]) ∧ Turned w w' (fun b i => b = k ∧ off ≤ i ∧ i < off + n) := by
  have HR : Hid (w.heap[k]? = some (.cells cs 5 (0, 0)) ∧ off + n ≤ cs.size) := ⟨hr, hs⟩
  clear hr hs
  go_enter Tryz.func22, Tryz.ntmps22
  go_wp2
  go_loopw [2] (fun i wr => ∃ j : Nat, j ≤ n ∧ i = .int .i64 j ∧ Turned w wr (fun b i => b = k ∧ off ≤ i ∧ i < off + n)) (fun i _ => n - (intOf i).toNat)
  case atStart => exact ⟨0, Nat.zero_le _, rfl, Turned.refl _ _⟩
  case round =>
    obtain ⟨j, hj, rfl, ht⟩ := hrel
    have HT : Hid (Turned w wr (fun b i => b = k ∧ off ≤ i ∧ i < off + n)) := ht
    clear ht
    by_cases hlt : j < n
    · obtain ⟨cs', h1, h2, _⟩ := HT.out.row k cs _ _ HR.out.1
      have hb := HR.out.2
      obtain ⟨x, hx⟩ : ∃ x, cs'[off + j]? = some x := ⟨_, Array.getElem?_eq_getElem (by omega)⟩
      have hc : wr.cell? ⟨k, off + j, none⟩ = some x := by rw [cell_of_row wr k _ cs' _ _ h1]; exact hx
      have hf := frozen_of_row wr k (off + j) _ _ h1
      have R := HT.out.setCell (k := k) (i := off + j) (.int .u8 (200 + (j : Int) % 50)) (fun _ => ⟨rfl, by omega, by omega⟩)
      have HRR : Hid _ := R
      clear R h1 h2 hx hb
      go_wp2
      go_roundw
      case rel => exact ⟨j + 1, by omega, by go_num, HRR.out⟩
      case measure => simp [intOf]; omega
    · go_wp2
      go_end0
      exact ⟨rfl, HT.out⟩

end Rz
end Go.Proofs.YtblgipjipeaemaaGreatDoor

/- The statements' Bag with one list of lists of bytes, and its lists: they are apart; which cells Apart turns. -/
namespace Go.Proofs.YtblgipjipeaemaaGreatDoor
open Go.RowKit
set_option maxRecDepth 8000

set_option maxRecDepth 8000 in
set_option maxHeartbeats 2000000 in
theorem bagApart_at (g B : Nat) (bv pv : Value) (ps : List Pc) (p : Pc) (w : World) (h : BagIs w g bv pv ps [p] B) (hl : ∀ q ∈ ps, Lies w 5 q) (hap : ApartPcs ps) (hn : ps.length ≤ 600) (hb : ∀ q ∈ ps, q.n ≤ 70000000000000) (hlp : Lies w 22 p) (hbp : p.n ≤ 1000000000)
    (ht : Tab w) (hg0 : 1 < B) (hBw : B ≤ w.heap.size) (hfB : ∀ k x, feet ps k x → B ≤ k) (hpB : ∀ k x, p.foot k x → B ≤ k) :
    Calls Tryz.prog 28 #[.pointer (some ⟨g, 0, none⟩)] w fun e w' => e = .returned (.bool true) ∧ Turned w w' (fun k i => feet ps k i ∨ p.foot k i) := by
  have cs := bag_cells h.row
  have H : Hid (BagIs w g bv pv ps [p] B ∧ (∀ q ∈ ps, Lies w 5 q) ∧ ApartPcs ps ∧ (∀ q ∈ ps, q.n ≤ 70000000000000) ∧ Lies w 22 p ∧ Tab w ∧ (∀ k x, feet ps k x → B ≤ k) ∧ (∀ k x, p.foot k x → B ≤ k)) := ⟨h, hl, hap, hb, hlp, ht, hfB, hpB⟩
  have c0 : w.cell? ⟨g, 0, none⟩ = some bv := cs 0 (by omega)
  clear h hl hap hb hlp ht hfB hpB cs
  go_enter Tryz.func28, Tryz.ntmps28
  go_wp2_with fail
  refine (apartBytes_any bv ps _ (sees_own H.out.1.bs) H.out.2.1 H.out.2.2.1 hn H.out.2.2.2.1).mono ?_
  rintro e w1 ⟨rfl, hT1⟩
  have hrow1 : w1.heap[g]? = some (.cells (bagCells bv pv) 73 (0, 0)) := by
    rw [hT1.same g (lt_of_block H.out.1.row) (fun x hs => ?_)]
    · exact H.out.1.row
    · obtain ⟨q, hq, hf⟩ := hs
      obtain ⟨_, cs2, hr2⟩ := (H.out.2.1 q hq).foot_lt hf
      rw [H.out.1.row] at hr2
      simp at hr2
  have hsp : SeesPcs w1 51 pv [p] := (sees_own (ps := [p]) H.out.1.pc).turned hT1 (fun _ _ h => h) H.out.2.1 (by decide)
  have H1 : Hid (w1.heap[g]? = some (.cells (bagCells bv pv) 73 (0, 0)) ∧ SeesPcs w1 51 pv [p] ∧ Lies w1 22 p ∧ Tab w1 ∧ Turned w w1 (feet ps)) :=
    ⟨hrow1, hsp, H.out.2.2.2.2.1.turned hT1, Tab.same H.out.2.2.2.2.2.1 (hT1.same _ (by omega) (fun x hs => by have := H.out.2.2.2.2.2.2.1 _ _ hs; omega)), hT1⟩
  have cs := bag_cells hrow1
  have c1 : w1.cell? ⟨g, 1, none⟩ = some nilS := cs 1 (by omega)
  have c2 : w1.cell? ⟨g, 2, none⟩ = some nilS := cs 2 (by omega)
  have c3 : w1.cell? ⟨g, 3, none⟩ = some pv := cs 3 (by omega)
  have hz1 := hT1.size
  clear hT1 hrow1 hsp cs c0
  go_wp2_with fail
  refine (apartInts_nil _).mono ?_
  rintro e w2 ⟨rfl, rfl⟩
  go_wp2_with fail
  refine (apartTexts_nil _).mono ?_
  rintro e w2 ⟨rfl, rfl⟩
  go_wp2_with fail
  refine (apartPieces_one pv p _ H1.out.2.1 H1.out.2.2.1 hbp H1.out.2.2.2.1 (by omega) (fun x hs => by have := H.out.2.2.2.2.2.2.2 _ _ hs; omega)).mono ?_
  rintro e w3 ⟨rfl, hT3⟩
  have hrow3 : w3.heap[g]? = some (.cells (bagCells bv pv) 73 (0, 0)) := by
    rw [hT3.same g (lt_of_block H1.out.1) (fun x hs => ?_)]
    · exact H1.out.1
    · obtain ⟨_, cs2, hr2⟩ := H1.out.2.2.1.foot_lt hs
      rw [H1.out.1] at hr2
      simp at hr2
  have HE : Hid (Turned w w3 (fun k i => feet ps k i ∨ p.foot k i)) := (H1.out.2.2.2.2.mono (fun _ _ _ h => .inl h)).trans hT3 (fun _ _ _ h => .inr h)
  have cs := bag_cells hrow3
  have c4 : w3.cell? ⟨g, 4, none⟩ = some nilS := cs 4 (by omega)
  have c5 : w3.cell? ⟨g, 5, none⟩ = some nilS := cs 5 (by omega)
  have c6 : w3.cell? ⟨g, 6, none⟩ = some nilS := cs 6 (by omega)
  have c7 : w3.cell? ⟨g, 7, none⟩ = some nilS := cs 7 (by omega)
  have c8 : w3.cell? ⟨g, 8, none⟩ = some nilS := cs 8 (by omega)
  have c9 : w3.cell? ⟨g, 9, none⟩ = some nilS := cs 9 (by omega)
  have c10 : w3.cell? ⟨g, 10, none⟩ = some nilS := cs 10 (by omega)
  have c11 : w3.cell? ⟨g, 11, none⟩ = some nilS := cs 11 (by omega)
  have c12 : w3.cell? ⟨g, 12, none⟩ = some nilS := cs 12 (by omega)
  have c13 : w3.cell? ⟨g, 13, none⟩ = some nilS := cs 13 (by omega)
  have c14 : w3.cell? ⟨g, 14, none⟩ = some nilS := cs 14 (by omega)
  have c15 : w3.cell? ⟨g, 15, none⟩ = some nilS := cs 15 (by omega)
  have c16 : w3.cell? ⟨g, 16, none⟩ = some nilS := cs 16 (by omega)
  have c17 : w3.cell? ⟨g, 17, none⟩ = some nilS := cs 17 (by omega)
  have c18 : w3.cell? ⟨g, 18, none⟩ = some nilS := cs 18 (by omega)
  have c19 : w3.cell? ⟨g, 19, none⟩ = some nilS := cs 19 (by omega)
  have c20 : w3.cell? ⟨g, 20, none⟩ = some nilS := cs 20 (by omega)
  clear hT3 hrow3 cs c1 c2 c3
  go_wp2_with fail
  refine (apartIds_nil _).mono ?_
  rintro e w4 ⟨rfl, rfl⟩
  go_wp2_with fail
  refine (apartAcl_nil _).mono ?_
  rintro e w4 ⟨rfl, rfl⟩
  go_wp2_with fail
  refine (apartRequests_nil _).mono ?_
  rintro e w4 ⟨rfl, rfl⟩
  go_wp2_with fail
  refine (apartTxns_nil _).mono ?_
  rintro e w4 ⟨rfl, rfl⟩
  go_wp2_with fail
  refine (apartResults_nil _).mono ?_
  rintro e w4 ⟨rfl, rfl⟩
  go_wp2_with fail
  refine (apartNodes_nil _).mono ?_
  rintro e w4 ⟨rfl, rfl⟩
  go_wp2_with fail
  refine (apartSessions_nil _).mono ?_
  rintro e w4 ⟨rfl, rfl⟩
  go_wp2_with fail
  refine (apartChanges_nil _).mono ?_
  rintro e w4 ⟨rfl, rfl⟩
  go_wp2_with fail
  refine (apartFiles_nil _).mono ?_
  rintro e w4 ⟨rfl, rfl⟩
  go_wp2_with fail
  refine (apartPackets_nil _).mono ?_
  rintro e w4 ⟨rfl, rfl⟩
  go_wp2_with fail
  refine (apartMessages_nil _).mono ?_
  rintro e w4 ⟨rfl, rfl⟩
  go_wp2_with fail
  refine (apartWatches_nil _).mono ?_
  rintro e w4 ⟨rfl, rfl⟩
  go_wp2_with fail
  refine (apartFired_nil _).mono ?_
  rintro e w4 ⟨rfl, rfl⟩
  go_wp2_with fail
  refine (apartFacts_nil _).mono ?_
  rintro e w4 ⟨rfl, rfl⟩
  go_wp2_with fail
  refine (apartSends_nil _).mono ?_
  rintro e w4 ⟨rfl, rfl⟩
  go_wp2_with fail
  refine (apartEvents_nil _).mono ?_
  rintro e w4 ⟨rfl, rfl⟩
  go_wp2_with fail
  refine (apartFactss_nil _).mono ?_
  rintro e w4 ⟨rfl, rfl⟩
  go_wp2
  go_ret
  exact ⟨rfl, HE.out⟩

end Go.Proofs.YtblgipjipeaemaaGreatDoor
