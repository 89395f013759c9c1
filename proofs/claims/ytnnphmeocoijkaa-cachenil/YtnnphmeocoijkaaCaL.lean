/- A cache of transactions that is nil, or that nobody made. -/
import Derived.Test.YtnnphmeocoijkaaCaK
import Derived.Test.YtnnphmeocoijkaaCopyX
import Derived.Test.YtnnphmeocoijkaaLargeT
import Derived.Test.YtnnphmeocoijkaaTxOpen
import Derived.Laws.Rows
import Derived.Deep.MidRow
namespace Go.Proofs.Ytnnphmeocoijkaa
open Go.RowKit Go.Shelf
set_option maxRecDepth 8000

/-- No cache: nil, or a plain one. -/
def NoTx (v : Value) (w : World) : Prop := v = .pointer none ∨ ∃ p, v = .pointer (some ⟨p, 0, none⟩) ∧ w.cell? ⟨p, 1027, none⟩ = some (.bool false)

theorem NoTx.below {v : Value} {w w' : World} (h : NoTx v w) (hb : Below w.heap.size w w') : NoTx v w' := by
  rcases h with h | ⟨p, h, hr⟩
  · exact .inl h
  · exact .inr ⟨p, h, cell_later hr hb (Nat.le_refl _)⟩

theorem NoTx.ptr {v : Value} {w : World} (h : NoTx v w) : ∃ o, v = .pointer o := by
  rcases h with rfl | ⟨p, rfl, _⟩
  · exact ⟨_, rfl⟩
  · exact ⟨_, rfl⟩

theorem isNone_no {v : Value} {w : World} (h : NoTx v w) : Calls Try.prog 24 #[v] w fun e w' => e = .returned (.bool true) ∧ w' = w := by
  rcases h with rfl | ⟨p, rfl, hr⟩
  · go_enter Try.func24, Try.ntmps24
    go_wp2
    all_goals (go_ret; exact ⟨rfl, rfl⟩)
  · have hl := World.block_lt_of_cell? w _ hr
    have hl2 : p < w.heap.size := hl
    clear hl
    go_enter Try.func24, Try.ntmps24
    go_wp2
    all_goals (go_ret; exact ⟨rfl, rfl⟩)

theorem lenT_no {v : Value} {w : World} (h : NoTx v w) : Calls Try.prog 20 #[v] w fun e w' => e = .returned (.int .i64 0) ∧ w' = w := by
  obtain ⟨o, rfl⟩ := h.ptr
  have HN : Hid _ := isNone_no h
  clear h
  go_enter Try.func20, Try.ntmps20
  go_wp2_with (go_at_call 24; refine Calls.mono HN.out ?_; rintro e w' ⟨rfl, rfl⟩)
  all_goals (go_ret; exact ⟨rfl, rfl⟩)

theorem clearT_no {v : Value} {w : World} (h : NoTx v w) : Calls Try.prog 19 #[v] w fun e w' => e = .returned (.tuple #[]) ∧ w' = w := by
  obtain ⟨o, rfl⟩ := h.ptr
  have HN : Hid _ := isNone_no h
  clear h
  go_enter Try.func19, Try.ntmps19
  go_wp2_with (go_at_call 24; refine Calls.mono HN.out ?_; rintro e w' ⟨rfl, rfl⟩)
  all_goals ((first | go_end0 | refine bodyPost_ret (results_none rfl _ _ _) rfl ?_); exact ⟨rfl, rfl⟩)

theorem addT_no {v : Value} {w : World} (h : NoTx v w) (cs : List Value) : Calls Try.prog 15 #[v, .agg cs.toArray] w fun e w' => e = .returned (.int .i64 1) ∧ Below w.heap.size w w' := by
  obtain ⟨o, rfl⟩ := h.ptr
  have hB : Below w.heap.size w (w.alloc (.cells cs.toArray 35)) := (Below.refl _ _).alloc (Nat.le_refl _) _
  have HN : Hid _ := isNone_no (h.below hB)
  have HB : Hid _ := hB
  clear h hB
  go_enter Try.func15, Try.ntmps15
  go_wp2_with (go_at_call 24; refine Calls.mono HN.out ?_; rintro e w' ⟨rfl, rfl⟩)
  all_goals (go_ret; exact ⟨rfl, HB.out⟩)

theorem behindT_no {v : Value} {w : World} (h : NoTx v w) (z1 z2 a1 a2 : Int) : Calls Try.prog 18 #[v, .agg #[.int .u32 z1, .int .u32 z2], .agg #[.int .u32 a1, .int .u32 a2]] w fun e w' => e = .returned (.tuple #[.slice none 0 0, .bool false]) ∧ Below w.heap.size w w' := by
  obtain ⟨o, rfl⟩ := h.ptr
  have hB : Below w.heap.size w ((w.alloc (.cells #[.int .u32 z1, .int .u32 z2] 24)).alloc (.cells #[.int .u32 a1, .int .u32 a2] 24)) := ((Below.refl _ _).alloc (Nat.le_refl _) _).alloc (by simp) _
  have HN : Hid _ := isNone_no (h.below hB)
  have HB : Hid _ := hB
  clear h hB
  refine (callsIn_wide (n := 0)).1 ?_
  refine callsIn_of_wp_marks Try.func18 rfl trivial ?_ rfl
  simp only [Try.ntmps18, List.size_toArray, List.length_cons, List.length_nil, Nat.reduceAdd, Nat.reduceSub, Array.replicate_succ, Array.replicate_zero, List.push_toArray, List.append_toArray, List.nil_append, List.cons_append]
  gi_wp2_with fail
  refine ⟨trivial, rfl, (callsIn_wide.2 HN.out).mono ?_⟩
  rintro e w1 ⟨rfl, rfl⟩
  gi_wp2_with fail
  refine ⟨trivial, ?_⟩
  gi_wp2_with fail
  show LeavesInM _ _ _ _ _ _ [] .returning _
  refine ⟨.tuple #[.slice none 0 0, .bool false], ?_, rfl, HB.out⟩
  have hres : Try.f18.results = #[.tmp 6, .tmp 7] := by kernel_rfl
  simp only [results, hres]
  go_simp

theorem spanT_no {v : Value} {w : World} (h : NoTx v w) : Calls Try.prog 17 #[v] w fun e w' => e = .returned (.tuple #[.agg #[.int .u32 0, .int .u32 0], .agg #[.int .u32 0, .int .u32 0], .bool false]) ∧ Below w.heap.size w w' := by
  obtain ⟨o, rfl⟩ := h.ptr
  have hB : Below w.heap.size w ((w.alloc (.cells #[.int .u32 0, .int .u32 0] 24)).alloc (.cells #[.int .u32 0, .int .u32 0] 24)) := ((Below.refl _ _).alloc (Nat.le_refl _) _).alloc (by simp) _
  have HN : Hid _ := lenT_no (h.below hB)
  have HB : Hid _ := hB
  clear h hB
  go_enter Try.func17, Try.ntmps17
  go_wp2_with (go_at_call 20; refine Calls.mono HN.out ?_; rintro e w' ⟨rfl, rfl⟩)
  refine bodyPost_ret (v := .tuple #[.agg #[.int .u32 0, .int .u32 0], .agg #[.int .u32 0, .int .u32 0], .bool false]) ?_ rfl ⟨rfl, HB.out⟩
  have hres : Try.f17.results = #[.cell 2 24, .cell 3 24, .tmp 4] := by kernel_rfl
  have r2 : ((w.alloc (.cells #[.int .u32 0, .int .u32 0] 24)).alloc (.cells #[.int .u32 0, .int .u32 0] 24)).heap[w.heap.size]? = some (.cells #[.int .u32 0, .int .u32 0] 24 (0, 0)) := (Below.heap_alloc _ _ _ (by simp)).trans (heap_alloc_new _ _)
  have r3 : ((w.alloc (.cells #[.int .u32 0, .int .u32 0] 24)).alloc (.cells #[.int .u32 0, .int .u32 0] 24)).heap[w.heap.size + 1]? = some (.cells #[.int .u32 0, .int .u32 0] 24 (0, 0)) := by
    have := heap_alloc_new (w.alloc (.cells #[.int .u32 0, .int .u32 0] 24)) (.cells #[.int .u32 0, .int .u32 0] 24)
    simpa using this
  have q2 : (Try.prog.info? 24).map (·.size) = some 2 := by kernel_rfl
  have l2 := run_loadVar_row (P := Try.prog) _ _ _ 24 _ _ _ r2 Try.underlying24 rfl q2
  have l3 := run_loadVar_row (P := Try.prog) _ _ _ 24 _ _ _ r3 Try.underlying24 rfl q2
  generalize ((w.alloc (.cells #[.int .u32 0, .int .u32 0] 24)).alloc (.cells #[.int .u32 0, .int .u32 0] 24)) = W at *
  simp only [results, hres]
  simp [Sem.run_bind, Result.andThen, asAddr, l2, l3]

/-- A plain cache, new. -/
theorem tx_plain (w : World) : ∃ Z : Array Value, (∀ w, (zeroValue 49).run Try.prog w = .ok (.agg Z) w) ∧ (w.alloc (.cells Z 49)).cell? ⟨w.heap.size, 1027, none⟩ = some (.bool false) := by
  refine ⟨((List.replicate 64 [Value.int .u32 0, .int .u32 0, .int .i8 0, .int .u32 0, .int .i64 0, .int .i8 0, .string ⟨#[]⟩, .slice none 0 0, .slice none 0 0, .int .i32 0, .bool false, .bool false, .int .i64 0, .int .i32 0, .slice none 0 0, .slice none 0 0]).flatten ++ ([.int .i64 0, .int .i64 0, .int .i64 0, .bool false] : List Value)).toArray, fun w => by kernel_rfl, ?_⟩
  rw [cell_of_row _ _ 1027 _ _ _ (heap_alloc_new _ _)]
  rfl

theorem txc_size : (Try.prog.info? 35).map (·.size) = some 16 := by kernel_rfl

set_option maxHeartbeats 1000000 in
theorem lost_no {v : Value} {w : World} (h : NoTx v w) (cs : List Value) (t : TxD) (ht : SeesTx w cs t) (hp : t.rq.parts ≤ 20000) (z1 z2 a1 a2 : Int) :
    Calls Try.prog 7 #[v, .agg cs.toArray, .agg #[.int .u32 z1, .int .u32 z2], .agg #[.int .u32 a1, .int .u32 a2]] w fun e w' => e = .returned (.bool true) ∧ Below w.heap.size w w' := by
  obtain ⟨o, rfl⟩ := h.ptr
  have q16 : (Try.prog.info? 35).map (·.size) = some cs.toArray.size := by rw [List.size_toArray, ht.len]; exact txc_size
  obtain ⟨W0, hW0⟩ : ∃ W0, W0 = ((w.alloc (.cells cs.toArray 35)).alloc (.cells #[.int .u32 z1, .int .u32 z2] 24)).alloc (.cells #[.int .u32 a1, .int .u32 a2] 24) := ⟨_, rfl⟩
  have B0 : Below w.heap.size w W0 := by rw [hW0]; exact (((Below.refl _ _).alloc (Nat.le_refl _) _).alloc (by simp) _).alloc (by simp; omega) _
  have r5 : W0.heap[w.heap.size]? = some (.cells cs.toArray 35 (0, 0)) := by
    rw [hW0, Below.heap_alloc _ _ _ (by simp; omega), Below.heap_alloc _ _ _ (by simp)]; exact heap_alloc_new _ _
  have r6 : W0.heap[w.heap.size + 1]? = some (.cells #[.int .u32 z1, .int .u32 z2] 24 (0, 0)) := by
    rw [hW0, Below.heap_alloc _ _ _ (by simp)]
    have := heap_alloc_new (w.alloc (.cells cs.toArray 35)) (.cells #[.int .u32 z1, .int .u32 z2] 24)
    simpa using this
  have r7 : W0.heap[w.heap.size + 1 + 1]? = some (.cells #[.int .u32 a1, .int .u32 a2] 24 (0, 0)) := by
    rw [hW0]
    have := heap_alloc_new ((w.alloc (.cells cs.toArray 35)).alloc (.cells #[.int .u32 z1, .int .u32 z2] 24)) (.cells #[.int .u32 a1, .int .u32 a2] 24)
    simpa using this
  have HC : Hid (Calls Try.prog 16 #[.agg cs.toArray] W0 fun e w' => ∃ ds : List Value, e = .returned (.agg ds.toArray) ∧ Below W0.heap.size W0 w') := by
    refine (copyTxn_any cs t W0 (ht.below B0 (Nat.le_refl _)) hp).mono ?_
    rintro e w' ⟨ds, rfl, _, b⟩
    exact ⟨_, rfl, b⟩
  have H0 : Hid (NoTx (.pointer o) W0 ∧ Below w.heap.size w W0 ∧ W0.heap[w.heap.size + 1]? = some (.cells #[.int .u32 z1, .int .u32 z2] 24 (0, 0)) ∧ W0.heap[w.heap.size + 1 + 1]? = some (.cells #[.int .u32 a1, .int .u32 a2] 24 (0, 0))) := ⟨h.below B0, B0, r6, r7⟩
  have HW0 : Hid _ := hW0
  clear h ht hp B0 r6 r7 hW0
  go_enter Try.func7, Try.ntmps7
  go_upto_region 1 with fail
  rw [← HW0.out]
  clear HW0
  go_wp2_with (refine wpList_load_row rfl 35 _ rfl w.heap.size rfl 35 _ (0, 0) _ r5 Try.underlying35 rfl q16 ?_)
  go_at_call 16
  refine (HC.out).mono ?_
  rintro e w1 ⟨ds, rfl, b1⟩
  have H1 : Hid (NoTx (.pointer o) w1 ∧ Below w.heap.size w w1 ∧ w1.heap[w.heap.size + 1]? = some (.cells #[.int .u32 z1, .int .u32 z2] 24 (0, 0)) ∧ w1.heap[w.heap.size + 1 + 1]? = some (.cells #[.int .u32 a1, .int .u32 a2] 24 (0, 0))) := ⟨H0.out.1.below b1, H0.out.2.1.trans (b1.mono H0.out.2.1.size), (b1.block _ (lt_of_block H0.out.2.2.1)).trans H0.out.2.2.1, (b1.block _ (lt_of_block H0.out.2.2.2)).trans H0.out.2.2.2⟩
  clear b1 H0 HC r5 q16
  go_wp2_with fail
  go_at_call 15
  refine (addT_no H1.out.1 ds).mono ?_
  rintro e w2 ⟨rfl, b2⟩
  have H2 : Hid (NoTx (.pointer o) w2 ∧ Below w.heap.size w w2 ∧ w2.heap[w.heap.size + 1]? = some (.cells #[.int .u32 z1, .int .u32 z2] 24 (0, 0)) ∧ w2.heap[w.heap.size + 1 + 1]? = some (.cells #[.int .u32 a1, .int .u32 a2] 24 (0, 0))) := ⟨H1.out.1.below b2, H1.out.2.1.trans (b2.mono H1.out.2.1.size), (b2.block _ (lt_of_block H1.out.2.2.1)).trans H1.out.2.2.1, (b2.block _ (lt_of_block H1.out.2.2.2)).trans H1.out.2.2.2⟩
  clear b2 H1
  go_wp2_with fail
  go_at_call 17
  refine (spanT_no H2.out.1).mono ?_
  rintro e w3 ⟨rfl, b3⟩
  obtain ⟨W3, hW3⟩ : ∃ W3, W3 = (w3.alloc (.cells #[.int .u32 0, .int .u32 0] 24)).alloc (.cells #[.int .u32 0, .int .u32 0] 24) := ⟨_, rfl⟩
  have b4 : Below w3.heap.size w3 W3 := by rw [hW3]; exact ((Below.refl _ _).alloc (Nat.le_refl _) _).alloc (by simp) _
  have H3 : Hid (NoTx (.pointer o) W3 ∧ Below w.heap.size w W3 ∧ W3.heap[w.heap.size + 1]? = some (.cells #[.int .u32 z1, .int .u32 z2] 24 (0, 0)) ∧ W3.heap[w.heap.size + 1 + 1]? = some (.cells #[.int .u32 a1, .int .u32 a2] 24 (0, 0)) ∧ W3.heap[w3.heap.size]? = some (.cells #[.int .u32 0, .int .u32 0] 24 (0, 0)) ∧ W3.heap[w3.heap.size + 1]? = some (.cells #[.int .u32 0, .int .u32 0] 24 (0, 0))) := by
    have l1 := lt_of_block H2.out.2.2.1
    have l2 := lt_of_block H2.out.2.2.2
    have s3 := b3.size
    refine ⟨(H2.out.1.below b3).below b4, (H2.out.2.1.trans (b3.mono H2.out.2.1.size)).trans (b4.mono (Nat.le_trans H2.out.2.1.size s3)), ?_, ?_, ?_, ?_⟩
    · rw [b4.block _ (by omega), b3.block _ l1]; exact H2.out.2.2.1
    · rw [b4.block _ (by omega), b3.block _ l2]; exact H2.out.2.2.2
    · rw [hW3]; exact (Below.heap_alloc _ _ _ (by simp)).trans (heap_alloc_new _ _)
    · rw [hW3]
      have := heap_alloc_new (w3.alloc (.cells #[.int .u32 0, .int .u32 0] 24)) (.cells #[.int .u32 0, .int .u32 0] 24)
      simpa using this
  have HW3 : Hid _ := hW3
  clear b3 b4 H2 hW3
  go_upto_region 3 with fail
  rw [← HW3.out]
  clear HW3
  generalize w3.heap.size = g at *
  have c60 := cell_of_row W3 _ 0 _ _ _ H3.out.2.2.1
  have c61 := cell_of_row W3 _ 1 _ _ _ H3.out.2.2.1
  have c70 := cell_of_row W3 _ 0 _ _ _ H3.out.2.2.2.1
  have c71 := cell_of_row W3 _ 1 _ _ _ H3.out.2.2.2.1
  have l6 := lt_of_block H3.out.2.2.1
  have l7 := lt_of_block H3.out.2.2.2.1
  go_wp2_with fail
  go_at_call 18
  refine (behindT_no H3.out.1 z1 z2 a1 a2).mono ?_
  rintro e w4 ⟨rfl, b4⟩
  have H4 : Hid (NoTx (.pointer o) w4 ∧ Below w.heap.size w w4) := ⟨H3.out.1.below b4, H3.out.2.1.trans (b4.mono H3.out.2.1.size)⟩
  have g10 := (b4.block _ (lt_of_block H3.out.2.2.2.2.1)).trans H3.out.2.2.2.2.1
  have g11 := (b4.block _ (lt_of_block H3.out.2.2.2.2.2)).trans H3.out.2.2.2.2.2
  clear b4 H3 c60 c61 c70 c71 l6 l7
  go_wp2_with fail
  go_at_call 19
  refine (clearT_no H4.out.1).mono ?_
  rintro e w5 ⟨rfl, rfl⟩
  go_wp2_with fail
  go_at_call 20
  refine (lenT_no H4.out.1).mono ?_
  rintro e w6 ⟨rfl, rfl⟩
  have c100 := cell_of_row w6 _ 0 _ _ _ g10
  have c101 := cell_of_row w6 _ 1 _ _ _ g10
  have c110 := cell_of_row w6 _ 0 _ _ _ g11
  have c111 := cell_of_row w6 _ 1 _ _ _ g11
  have lg := lt_of_block g10
  have lg1 := lt_of_block g11
  clear g10 g11
  go_wp2_with fail
  go_ret
  exact ⟨rfl, H4.out.2⟩

end Go.Proofs.Ytnnphmeocoijkaa
