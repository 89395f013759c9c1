/- The walk of CacheNil. -/
import Derived.Test.YtnnphmeocoijkaaCaL
import Derived.Test.YtnnphmeocoijkaaCaO
import Derived.Test.YtnnphmeocoijkaaTxOpenZ
namespace Go.Proofs.Ytnnphmeocoijkaa
open Go.RowKit Go.Shelf
set_option maxRecDepth 8000

/-- What CacheNil holds: its three boxes. -/
structure NlB (w : World) (cs rc : List Value) (t : TxD) (z1 z2 a1 a2 : Int) (W : World) : Prop where
  r6 : W.heap[w.heap.size]? = some (.cells cs.toArray 35 (0, 0))
  r7 : W.heap[w.heap.size + 1]? = some (.cells #[.int .u32 z1, .int .u32 z2] 24 (0, 0))
  r8 : W.heap[w.heap.size + 1 + 1]? = some (.cells #[.int .u32 a1, .int .u32 a2] 24 (0, 0))
  tx : SeesTx W cs t
  rq : SeesRq W rc t.rq
  cat : cs = txHead t ++ rc
  bel : Below w.heap.size w W

theorem NlB.later {w : World} {cs rc : List Value} {t : TxD} {z1 z2 a1 a2 : Int} {W W' : World} (h : NlB w cs rc t z1 z2 a1 a2 W) (hb : Below W.heap.size W W') : NlB w cs rc t z1 z2 a1 a2 W' :=
  ⟨(hb.block _ (lt_of_block h.r6)).trans h.r6, (hb.block _ (lt_of_block h.r7)).trans h.r7, (hb.block _ (lt_of_block h.r8)).trans h.r8, h.tx.below hb (Nat.le_refl _), h.rq.later hb (Nat.le_refl _), h.cat, h.bel.trans (hb.mono h.bel.size)⟩

theorem NlB.at5 {w : World} {cs rc : List Value} {t : TxD} {z1 z2 a1 a2 : Int} {W : World} (h : NlB w cs rc t z1 z2 a1 a2 W) : W.rangeAt w.heap.size 5 rc := by
  intro j v hj
  rw [cell_of_row _ _ _ _ _ _ h.r6, h.cat]
  have e : (txHead t ++ rc).toArray[5 + j]? = rc[j]? := by
    rw [List.getElem?_toArray, List.getElem?_append_right (by simp [txHead])]
    simp [txHead]
  rw [e]
  exact hj

theorem rqc_size : (Try.prog.info? 33).map (·.size) = some 11 := by kernel_rfl

set_option maxHeartbeats 2000000 in
theorem nil_walk (x : Int) (cs : List Value) (t : TxD) (z1 z2 a1 a2 i : Int) (w : World) (ht : SeesTx w cs t) (hg : t.good) (_h0 : -9223372036854775808 ≤ x ∧ x ≤ 9223372036854775807) (_h1 : (0 ≤ z1 ∧ z1 ≤ 4294967295) ∧ 0 ≤ z2 ∧ z2 ≤ 4294967295) (_h2 : (0 ≤ a1 ∧ a1 ≤ 4294967295) ∧ 0 ≤ a2 ∧ a2 ≤ 4294967295) (_h3 : -9223372036854775808 ≤ i ∧ i ≤ 9223372036854775807) :
    Calls Try.prog 3 #[.int .i64 x, .agg cs.toArray, .agg [.int .u32 z1, .int .u32 z2].toArray, .agg [.int .u32 a1, .int .u32 a2].toArray, .int .i64 i] w fun e w' => e = .returned (.bool true) ∧ Below w.heap.size w w' := by
  clear _h0 _h1 _h2 _h3
  have hl16 := ht.len
  obtain ⟨rc, hrc, hr⟩ := id ht
  have hl11 := hr.len
  have q16 : (Try.prog.info? 35).map (·.size) = some cs.toArray.size := by rw [List.size_toArray, hl16]; exact txc_size
  have q11 : (Try.prog.info? 33).map (·.size) = some rc.length := by rw [hl11]; exact rqc_size
  obtain ⟨W0, hW0⟩ : ∃ W0, W0 = ((w.alloc (.cells cs.toArray 35)).alloc (.cells #[.int .u32 z1, .int .u32 z2] 24)).alloc (.cells #[.int .u32 a1, .int .u32 a2] 24) := ⟨_, rfl⟩
  have B0 : Below w.heap.size w W0 := by rw [hW0]; exact (((Below.refl _ _).alloc (Nat.le_refl _) _).alloc (by simp) _).alloc (by simp; omega) _
  have r5 : W0.heap[w.heap.size]? = some (.cells cs.toArray 35 (0, 0)) := by
    rw [hW0, Below.heap_alloc _ _ _ (by simp; omega), Below.heap_alloc _ _ _ (by simp)]; exact heap_alloc_new _ _
  have r6 : W0.heap[w.heap.size + 1]? = some (.cells #[.int .u32 z1, .int .u32 z2] 24 (0, 0)) := by
    rw [hW0, Below.heap_alloc _ _ _ (by simp)]
    have := heap_alloc_new (w.alloc (.cells cs.toArray 35)) (.cells #[.int .u32 z1, .int .u32 z2] 24)
    simpa using this
  have r7 : W0.heap[w.heap.size + 1 + 1]? = some (.cells #[.int .u32 a1, .int .u32 a2] 24 (0, 0)) := by
    rw [hW0]
    have := heap_alloc_new ((w.alloc (.cells cs.toArray 35)).alloc (.cells #[.int .u32 z1, .int .u32 z2] 24)) (.cells #[.int .u32 a1, .int .u32 a2] 24)
    simpa using this
  have H0 : Hid (NlB w cs rc t z1 z2 a1 a2 W0) := ⟨r5, r6, r7, ht.below B0 (Nat.le_refl _), hr.later B0 (Nat.le_refl _), hrc, B0⟩
  have HG : Hid _ := hg
  have HW0 : Hid _ := hW0
  clear ht hg hr B0 r5 r6 r7 hW0 hrc hl16 hl11
  go_enter Try.func3, Try.ntmps3
  go_upto_region 1 with fail
  rw [← HW0.out]
  clear HW0
  go_wp2_with fail
  go_at_call 4
  refine (caWorks_any _).mono ?_
  rintro e w1 ⟨rfl, b1⟩
  have H1 : Hid (NlB w cs rc t z1 z2 a1 a2 w1) := H0.out.later b1
  clear b1 H0
  have l5 := H1.out.at5
  go_wp2_with (refine wpList_load_mid rfl 33 _ rfl w.heap.size 5 rfl rc _ l5 Try.underlying33 rfl q11 ?_)
  clear l5
  go_at_call 5
  refine (large_any t.rq rc w1 H1.out.rq HG.out.rq).mono ?_
  rintro _ w2 ⟨bl, rfl, hbl, b⟩
  have H2 : Hid (NlB w cs rc t z1 z2 a1 a2 w2) := H1.out.later b
  clear b H1
  cases bl
  · have HP : Hid (t.rq.parts ≤ 20000) := hbl rfl
    clear hbl
    go_wp2_with fail
    go_at_call 6
    refine (idle_none (B := w2.heap.size) (.inl rfl) x i (fun p e => by cases e) (Nat.le_refl _)).mono ?_
    rintro e w3 ⟨rfl, b3⟩
    have H3 : Hid (NlB w cs rc t z1 z2 a1 a2 w3) := H2.out.later b3
    clear b3 H2
    obtain ⟨Z, hz, hrg, hbz⟩ := rg_plain w3
    have HI : Hid (Calls Try.prog 6 #[.pointer (some ⟨w3.heap.size, 0, none⟩), .int .i64 x, .int .i64 i] (w3.alloc (.cells Z 42)) fun e w' => e = .returned (.bool true) ∧ Below w3.heap.size w3 w') := by
      refine (idle_none (B := w3.heap.size) (.inr ⟨_, rfl, hrg⟩) x i (fun p e => by cases e; exact Nat.le_refl _) (by simp)).mono ?_
      rintro e w' ⟨rfl, b⟩
      exact ⟨rfl, hbz.trans b⟩
    clear hrg hbz
    go_wp2_with fail
    go_at_call 6
    refine (HI.out).mono ?_
    rintro e w4 ⟨rfl, b4⟩
    have H4 : Hid (NlB w cs rc t z1 z2 a1 a2 w4) := H3.out.later b4
    clear b4 H3 HI hz
    have g6 := H4.out.r6
    have c70 := cell_of_row w4 _ 0 _ _ _ H4.out.r7
    have c71 := cell_of_row w4 _ 1 _ _ _ H4.out.r7
    have c80 := cell_of_row w4 _ 0 _ _ _ H4.out.r8
    have c81 := cell_of_row w4 _ 1 _ _ _ H4.out.r8
    have l6 := lt_of_block H4.out.r6
    have l7 := lt_of_block H4.out.r7
    have l8 := lt_of_block H4.out.r8
    go_wp2_with (refine wpList_load_row rfl 35 _ rfl w.heap.size rfl 35 _ (0, 0) _ g6 Try.underlying35 rfl q16 ?_)
    go_at_call 7
    refine (lost_no (.inl rfl) cs t H4.out.tx HP.out z1 z2 a1 a2).mono ?_
    rintro e w5 ⟨rfl, b5⟩
    have H5 : Hid (NlB w cs rc t z1 z2 a1 a2 w5) := H4.out.later b5
    clear b5 H4 g6 c70 c71 c80 c81 l6 l7 l8
    obtain ⟨Z2, hz2, hno⟩ := tx_plain w5
    have hbz2 : Below w5.heap.size w5 (w5.alloc (.cells Z2 49)) := (Below.refl _ _).alloc (Nat.le_refl _) _
    have H6 : Hid (NlB w cs rc t z1 z2 a1 a2 (w5.alloc (.cells Z2 49))) := H5.out.later hbz2
    have HN : Hid ((w5.alloc (.cells Z2 49)).cell? ⟨w5.heap.size, 1027, none⟩ = some (.bool false)) := hno
    clear hno hbz2 H5
    have g6 := H6.out.r6
    have c70 := cell_of_row _ _ 0 _ _ _ H6.out.r7
    have c71 := cell_of_row _ _ 1 _ _ _ H6.out.r7
    have c80 := cell_of_row _ _ 0 _ _ _ H6.out.r8
    have c81 := cell_of_row _ _ 1 _ _ _ H6.out.r8
    go_wp2_with (refine wpList_load_row rfl 35 _ rfl w.heap.size rfl 35 _ (0, 0) _ g6 Try.underlying35 rfl q16 ?_)
    go_at_call 7
    refine (lost_no (.inr ⟨_, rfl, HN.out⟩) cs t H6.out.tx HP.out z1 z2 a1 a2).mono ?_
    rintro e w7 ⟨rfl, b7⟩
    have H7 : Hid (Below w.heap.size w w7) := (H6.out.later b7).bel
    clear b7 H6 g6 c70 c71 c80 c81 HN hz2
    go_wp2_with fail
    go_ret
    exact ⟨rfl, H7.out⟩
  · go_wp2_with fail
    go_ret
    exact ⟨rfl, H2.out.bel⟩

end Go.Proofs.Ytnnphmeocoijkaa
