/- ManiWrites of the statements of layer 11, walked: true for any two manifests. -/
import Derived.Test.YtiakjeomedijkaaGreatDoorMbCJ
import Derived.Test.YtiakjeomedijkaaGreatDoorMaMJ
namespace Go.Proofs.YtiakjeomedijkaaGreatDoor
open Go.RowKit Go.Shelf
set_option maxRecDepth 8000

/-- The answers so far: the first two lie apart, the others behind them. -/
structure Mq (w X : World) (N : Nat) (m n : MaD) (a b : Pc) (zs : List (Pc × MaD)) (W : World) : Prop where
  bys : Bys X.heap.size [a, b] W
  bel : Below X.heap.size X W
  fit : w.heap.size ≤ X.heap.size
  oa : Owns W X.heap.size a.val (wBytM m)
  ob : Owns W X.heap.size b.val (wBytM n)
  oz : ∀ z ∈ zs, Owns W N z.1.val (wBytM z.2)
  low : N ≤ W.heap.size
  ft : ∀ p ∈ [a, b], ∀ k x, p.foot k x → k < N


theorem owns_laterM {W W' : World} {B : Nat} {v : Value} {bs : List Int} (h : Owns W B v bs) (hb : Below W.heap.size W W') : Owns W' B v bs := Owns.kept h (Below.kept hb) (fun k e h' => by have := (h.lt k e).2; omega)

theorem Mq.later {w X : World} {N : Nat} {m n : MaD} {a b : Pc} {zs : List (Pc × MaD)} {W W' : World} (h : Mq w X N m n a b zs W) (hb : Below W.heap.size W W') : Mq w X N m n a b zs W' :=
  ⟨h.bys.later hb, h.bel.trans (hb.mono h.bel.size), h.fit, owns_laterM h.oa hb, owns_laterM h.ob hb, fun z hz => owns_laterM (h.oz z hz) hb, Nat.le_trans h.low hb.size, h.ft⟩

theorem Mq.next {w X : World} {N : Nat} {m n q : MaD} {a b : Pc} {zs : List (Pc × MaD)} {W W' : World} (h : Mq w X N m n a b zs W) (hb : Below W.heap.size W W') {c0 : Option Addr} {c1 c2 : Nat} (ho : Owns W' W.heap.size (.slice c0 c1 c2) (wBytM q)) : Mq w X N m n a b ((⟨c0, c1, c2⟩, q) :: zs) W' := by
  have h' := h.later hb
  refine ⟨h'.bys, h'.bel, h'.fit, h'.oa, h'.ob, fun z hz => ?_, h'.low, h'.ft⟩
  rcases List.mem_cons.1 hz with rfl | hz
  · exact owns_mono ho h.low
  · exact h'.oz z hz

theorem mq_two {w X w1 w2 : World} {m n : MaD} {a0 b0 : Option Addr} {a1 a2 b1 b2 : Nat} (hw : w.heap.size ≤ X.heap.size) (ho1 : Owns w1 X.heap.size (.slice a0 a1 a2) (wBytM m)) (hb1 : Below X.heap.size X w1) (ho2 : Owns w2 w1.heap.size (.slice b0 b1 b2) (wBytM n)) (hb2 : Below w1.heap.size w1 w2) : Mq w X w2.heap.size m n ⟨a0, a1, a2⟩ ⟨b0, b1, b2⟩ [] w2 := by
  have y1 := Bys.add (Bys.nil X.heap.size X) hb1 (Nat.le_refl _) ho1 (wBytM_len m)
  have y2 := Bys.add y1 hb2 hb1.size ho2 (wBytM_len n)
  exact ⟨y2, hb1.trans (hb2.mono hb1.size), hw, owns_laterM ho1 hb2, owns_mono ho2 hb1.size, fun z hz => by simp at hz, Nat.le_refl _, fun p hp k x hf => ((y2.lies p hp).foot_lt hf).1⟩

set_option maxHeartbeats 8000000 in
theorem maniWrites_walk (m n : MaD) (hm : m.Fits) (hn : n.Fits) (w : World) :
    Calls Tryz.prog 3 #[m.val, n.val] w fun r w' => r = .returned (.bool true) ∧ Below w.heap.size w w' := by
  have HM : Hid _ := hm
  have HN : Hid _ := hn
  clear hm hn
  obtain ⟨p0, p1, p2, p3, p4⟩ := m
  obtain ⟨q0, q1, q2, q3, q4⟩ := n
  obtain ⟨V, eV⟩ : ∃ V, V = (w.alloc (.cells #[.int .u32 p0, .int .u32 p1, .int .u32 p2, .int .i64 p3, .int .i64 p4] 24)).alloc (.cells #[.int .u32 q0, .int .u32 q1, .int .u32 q2, .int .i64 q3, .int .i64 q4] 24) := ⟨_, rfl⟩
  have HV : Hid (Below w.heap.size w V ∧ w.heap.size < V.heap.size) := by subst eV; exact ⟨Below.step (one_allocK _ _) (one_allocK _ _), by rw [World.size_alloc, World.size_alloc]; omega⟩
  have HC : Hid (∀ W', Below V.heap.size V W' → W'.cell? ⟨w.heap.size, 0, none⟩ = some (.int .u32 p0) ∧ W'.cell? ⟨w.heap.size, 1, none⟩ = some (.int .u32 p1) ∧ W'.cell? ⟨w.heap.size, 2, none⟩ = some (.int .u32 p2) ∧ W'.cell? ⟨w.heap.size, 3, none⟩ = some (.int .i64 p3) ∧ W'.cell? ⟨w.heap.size, 4, none⟩ = some (.int .i64 p4) ∧ W'.cell? ⟨w.heap.size + 1, 0, none⟩ = some (.int .u32 q0) ∧ W'.cell? ⟨w.heap.size + 1, 1, none⟩ = some (.int .u32 q1) ∧ W'.cell? ⟨w.heap.size + 1, 2, none⟩ = some (.int .u32 q2) ∧ W'.cell? ⟨w.heap.size + 1, 3, none⟩ = some (.int .i64 q3) ∧ W'.cell? ⟨w.heap.size + 1, 4, none⟩ = some (.int .i64 q4)) := by
    intro W' hW
    have h1 : V.heap[w.heap.size]? = some (.cells #[.int .u32 p0, .int .u32 p1, .int .u32 p2, .int .i64 p3, .int .i64 p4] 24 (0, 0)) := by subst eV; exact (Below.kept (one_allocK _ _)).heap (heap_alloc_new w _) (fun e => by rw [World.size_alloc] at e; omega)
    have h2 : V.heap[w.heap.size + 1]? = some (.cells #[.int .u32 q0, .int .u32 q1, .int .u32 q2, .int .i64 q3, .int .i64 q4] 24 (0, 0)) := by
      subst eV
      have := heap_alloc_new (w.alloc (.cells #[.int .u32 p0, .int .u32 p1, .int .u32 p2, .int .i64 p3, .int .i64 p4] 24)) (.cells #[.int .u32 q0, .int .u32 q1, .int .u32 q2, .int .i64 q3, .int .i64 q4] 24)
      rw [World.size_alloc] at this
      exact this
    have h3 := (Below.kept hW).heap h1 (fun e => by have := lt_of_block h1; omega)
    have h4 := (Below.kept hW).heap h2 (fun e => by have := lt_of_block h2; omega)
    refine ⟨?_, ?_, ?_, ?_, ?_, ?_, ?_, ?_, ?_, ?_⟩
    · exact cell_of_row _ _ 0 _ _ _ h3
    · exact cell_of_row _ _ 1 _ _ _ h3
    · exact cell_of_row _ _ 2 _ _ _ h3
    · exact cell_of_row _ _ 3 _ _ _ h3
    · exact cell_of_row _ _ 4 _ _ _ h3
    · exact cell_of_row _ _ 0 _ _ _ h4
    · exact cell_of_row _ _ 1 _ _ _ h4
    · exact cell_of_row _ _ 2 _ _ _ h4
    · exact cell_of_row _ _ 3 _ _ _ h4
    · exact cell_of_row _ _ 4 _ _ _ h4
  have HE : Hid _ := eV
  clear eV
  go_enter Tryz.func3, Tryz.ntmps3
  go_upto_region 1 with fail
  rw [← HE.out]
  clear HE
  go_wp2_with fail
  refine Calls.mono (lives_m V) ?_
  rintro _ X ⟨rfl, b⟩
  have HB : Hid (Below V.heap.size V X) := b
  clear b
  obtain ⟨g0, g1, g2, g3, g4, g5, g6, g7, g8, g9⟩ := HC.out X (HB.out)
  go_wp2_with fail
  clear g0 g1 g2 g3 g4 g5 g6 g7 g8 g9
  refine Calls.mono (write_m ⟨p0, p1, p2, p3, p4⟩ HM.out X) ?_
  rintro _ w1 ⟨a0, a1, a2, rfl, ho1, hb1⟩
  have H1 : Hid (Owns w1 X.heap.size (.slice a0 a1 a2) (wBytM ⟨p0, p1, p2, p3, p4⟩) ∧ Below X.heap.size X w1) := ⟨ho1, hb1⟩
  clear ho1 hb1
  obtain ⟨g0, g1, g2, g3, g4, g5, g6, g7, g8, g9⟩ := HC.out w1 (HB.out.trans (H1.out.2.mono HB.out.size))
  go_wp2_with fail
  clear g0 g1 g2 g3 g4 g5 g6 g7 g8 g9
  refine Calls.mono (write_m ⟨q0, q1, q2, q3, q4⟩ HN.out w1) ?_
  rintro _ w2 ⟨b0, b1, b2, rfl, ho2, hb2⟩
  have HQ2 : Hid (Mq w X w2.heap.size ⟨p0, p1, p2, p3, p4⟩ ⟨q0, q1, q2, q3, q4⟩ ⟨a0, a1, a2⟩ ⟨b0, b1, b2⟩ [] w2) := mq_two (Nat.le_trans HV.out.1.size HB.out.size) H1.out.1 H1.out.2 ho2 hb2
  clear ho2 hb2 H1
  obtain ⟨K, eK⟩ : ∃ K, K = w2.heap.size := ⟨_, rfl⟩
  rw [← eK] at HQ2
  clear eK
  obtain ⟨g0, g1, g2, g3, g4, g5, g6, g7, g8, g9⟩ := HC.out w2 (HB.out.trans (HQ2.out.bel.mono HB.out.size))
  go_wp2_with fail
  clear g0 g1 g2 g3 g4 g5 g6 g7 g8 g9
  refine Calls.mono (write_m ⟨p0, p1, p2, p3, p4⟩ HM.out w2) ?_
  rintro _ w3 ⟨c0, c1, c2, rfl, ho, hb⟩
  have HQ3 : Hid (Mq w X K ⟨p0, p1, p2, p3, p4⟩ ⟨q0, q1, q2, q3, q4⟩ ⟨a0, a1, a2⟩ ⟨b0, b1, b2⟩ [(⟨c0, c1, c2⟩, ⟨p0, p1, p2, p3, p4⟩)] w3) := HQ2.out.next hb ho
  clear ho hb HQ2
  obtain ⟨g0, g1, g2, g3, g4, g5, g6, g7, g8, g9⟩ := HC.out w3 (HB.out.trans (HQ3.out.bel.mono HB.out.size))
  go_wp2_with fail
  clear g0 g1 g2 g3 g4 g5 g6 g7 g8 g9
  refine Calls.mono (rWrite_m ⟨p0, p1, p2, p3, p4⟩ HM.out w3) ?_
  rintro _ w4 ⟨x0, x1, x2, rfl, ho, hb⟩
  have HQ4 : Hid (Mq w X K ⟨p0, p1, p2, p3, p4⟩ ⟨q0, q1, q2, q3, q4⟩ ⟨a0, a1, a2⟩ ⟨b0, b1, b2⟩ [(⟨x0, x1, x2⟩, ⟨p0, p1, p2, p3, p4⟩), (⟨c0, c1, c2⟩, ⟨p0, p1, p2, p3, p4⟩)] w4) := HQ3.out.next hb ho
  clear ho hb HQ3
  obtain ⟨g0, g1, g2, g3, g4, g5, g6, g7, g8, g9⟩ := HC.out w4 (HB.out.trans (HQ4.out.bel.mono HB.out.size))
  go_wp2_with fail
  clear g0 g1 g2 g3 g4 g5 g6 g7 g8 g9
  refine Calls.mono (rWrite_m ⟨q0, q1, q2, q3, q4⟩ HN.out w4) ?_
  rintro _ w5 ⟨y0, y1, y2, rfl, ho, hb⟩
  have HQ5 : Hid (Mq w X K ⟨p0, p1, p2, p3, p4⟩ ⟨q0, q1, q2, q3, q4⟩ ⟨a0, a1, a2⟩ ⟨b0, b1, b2⟩ [(⟨y0, y1, y2⟩, ⟨q0, q1, q2, q3, q4⟩), (⟨x0, x1, x2⟩, ⟨p0, p1, p2, p3, p4⟩), (⟨c0, c1, c2⟩, ⟨p0, p1, p2, p3, p4⟩)] w5) := HQ4.out.next hb ho
  clear ho hb HQ4
  obtain ⟨E, hE⟩ : ∃ E, E = wErrM ⟨p0, p1, p2, p3, p4⟩ := ⟨_, rfl⟩
  obtain ⟨F, hF⟩ : ∃ F, F = wErrM ⟨q0, q1, q2, q3, q4⟩ := ⟨_, rfl⟩
  rw [← hE, ← hF]
  have HWX : Hid (Below w.heap.size w X) := HV.out.1.trans (HB.out.mono HV.out.1.size)
  have HW : Hid (w.heap.size ≤ X.heap.size) := HWX.out.size
  clear hE hF HC HB HV
  go_wp2_with fail
  refine (eqBytes_alike _ _ (wBytM ⟨p0, p1, p2, p3, p4⟩) w5 (Sees.own HQ5.out.oa) (Sees.own (HQ5.out.oz (⟨x0, x1, x2⟩, ⟨p0, p1, p2, p3, p4⟩) (by simp)))).mono ?_
  rintro _ w6 ⟨rfl, b⟩
  have HQ6 : Hid (Mq w X K ⟨p0, p1, p2, p3, p4⟩ ⟨q0, q1, q2, q3, q4⟩ ⟨a0, a1, a2⟩ ⟨b0, b1, b2⟩ [(⟨y0, y1, y2⟩, ⟨q0, q1, q2, q3, q4⟩), (⟨x0, x1, x2⟩, ⟨p0, p1, p2, p3, p4⟩), (⟨c0, c1, c2⟩, ⟨p0, p1, p2, p3, p4⟩)] w6) := HQ5.out.later b
  clear b HQ5
  go_wp2_with fail
  refine (eqBytes_alike _ _ (wBytM ⟨q0, q1, q2, q3, q4⟩) w6 (Sees.own HQ6.out.ob) (Sees.own (HQ6.out.oz (⟨y0, y1, y2⟩, ⟨q0, q1, q2, q3, q4⟩) (by simp)))).mono ?_
  rintro _ w7 ⟨rfl, b⟩
  have HQ7 : Hid (Mq w X K ⟨p0, p1, p2, p3, p4⟩ ⟨q0, q1, q2, q3, q4⟩ ⟨a0, a1, a2⟩ ⟨b0, b1, b2⟩ [(⟨y0, y1, y2⟩, ⟨q0, q1, q2, q3, q4⟩), (⟨x0, x1, x2⟩, ⟨p0, p1, p2, p3, p4⟩), (⟨c0, c1, c2⟩, ⟨p0, p1, p2, p3, p4⟩)] w7) := HQ6.out.later b
  clear b HQ6
  go_wp2_with fail
  refine (eqBytes_alike _ _ (wBytM ⟨p0, p1, p2, p3, p4⟩) w7 (Sees.own (HQ7.out.oz (⟨c0, c1, c2⟩, ⟨p0, p1, p2, p3, p4⟩) (by simp))) (Sees.own (HQ7.out.oz (⟨x0, x1, x2⟩, ⟨p0, p1, p2, p3, p4⟩) (by simp)))).mono ?_
  rintro _ w8 ⟨rfl, b⟩
  have HQ8 : Hid (Mq w X K ⟨p0, p1, p2, p3, p4⟩ ⟨q0, q1, q2, q3, q4⟩ ⟨a0, a1, a2⟩ ⟨b0, b1, b2⟩ [(⟨y0, y1, y2⟩, ⟨q0, q1, q2, q3, q4⟩), (⟨x0, x1, x2⟩, ⟨p0, p1, p2, p3, p4⟩), (⟨c0, c1, c2⟩, ⟨p0, p1, p2, p3, p4⟩)] w8) := HQ7.out.later b
  clear b HQ7
  obtain ⟨Y, eY⟩ : ∃ Y, Y = w8 := ⟨_, rfl⟩
  subst eY
  go_upto_region 10 with fail
  have HBG : Hid (BagIs (Y.alloc (.cells (bagCells nilS nilS) 54)) Y.heap.size nilS nilS [] [] X.heap.size ∧ X.heap.size ≤ (Y.alloc (.cells (bagCells nilS nilS) 54)).heap.size ∧ Below Y.heap.size Y (Y.alloc (.cells (bagCells nilS nilS) 54))) := ⟨⟨heap_alloc_new _ _, World.ownsRow_nil _ _ _ _, World.ownsRow_nil _ _ _ _⟩, by have := HQ8.out.bel.size; simp; omega, one_alloc _ _⟩
  have HAD := addBytes_any Y.heap.size nilS nilS [] [] X.heap.size ⟨a0, a1, a2⟩ _ HBG.out.1 (by simp) HBG.out.2.1
  go_wp2_with fail
  refine HAD.mono ?_
  clear HAD
  rintro _ w9 ⟨rfl, bv, hbag, hk, _⟩
  rw [List.nil_append] at hbag
  have S9 : Hid (BagIs w9 Y.heap.size bv nilS [⟨a0, a1, a2⟩] [] X.heap.size ∧ Below Y.heap.size Y w9) := ⟨hbag, HBG.out.2.2.trans (by
    refine ⟨hk.os, hk.tape, hk.output, hk.size, fun k hk' => hk.block k (by have := HBG.out.2.2.size; omega) (fun e => ?_)⟩
    rcases e with rfl | e
    · omega
    · simp [Value.ownBlock] at e)⟩
  clear hbag hk HBG
  have HQ9 : Hid (Mq w X K ⟨p0, p1, p2, p3, p4⟩ ⟨q0, q1, q2, q3, q4⟩ ⟨a0, a1, a2⟩ ⟨b0, b1, b2⟩ [(⟨y0, y1, y2⟩, ⟨q0, q1, q2, q3, q4⟩), (⟨x0, x1, x2⟩, ⟨p0, p1, p2, p3, p4⟩), (⟨c0, c1, c2⟩, ⟨p0, p1, p2, p3, p4⟩)] w9) := HQ8.out.later S9.out.2
  obtain ⟨g, eg⟩ : ∃ g, g = Y.heap.size := ⟨_, rfl⟩
  have HG : Hid (X.heap.size ≤ g) := by rw [eg]; exact HQ8.out.bel.size
  have HT : Hid (BagIs w9 g bv nilS [⟨a0, a1, a2⟩] [] X.heap.size) := by rw [eg]; exact S9.out.1
  rw [← eg]
  clear S9 HQ8 eg
  have HAD := addBytes_any g bv nilS [⟨a0, a1, a2⟩] [] X.heap.size ⟨b0, b1, b2⟩ w9 HT.out (by simp) HQ9.out.bel.size
  go_wp2_with fail
  refine HAD.mono ?_
  clear HAD
  rintro _ w10 ⟨rfl, bv1, hbag, hk, _⟩
  have S10 : Hid (Bys X.heap.size [⟨a0, a1, a2⟩, ⟨b0, b1, b2⟩] w10 ∧ BagIs w10 g bv1 nilS [⟨a0, a1, a2⟩, ⟨b0, b1, b2⟩] [] X.heap.size ∧ Below w.heap.size w w10 ∧ Owns w10 K (.slice c0 c1 c2) (wBytM ⟨p0, p1, p2, p3, p4⟩) ∧ Owns w10 K (.slice x0 x1 x2) (wBytM ⟨p0, p1, p2, p3, p4⟩) ∧ (∀ p ∈ [⟨a0, a1, a2⟩, ⟨b0, b1, b2⟩], ∀ k x, Pc.foot p k x → k < K)) := ⟨HQ9.out.bys.kept hk (HQ9.out.bys.bag HT.out), hbag, (HWX.out.trans (HQ9.out.bel.mono HWX.out.size)).trans (HT.out.below hk HW.out (Nat.le_trans HW.out HG.out)), (HQ9.out.oz (⟨c0, c1, c2⟩, ⟨p0, p1, p2, p3, p4⟩) (by simp)).bag HT.out hk, (HQ9.out.oz (⟨x0, x1, x2⟩, ⟨p0, p1, p2, p3, p4⟩) (by simp)).bag HT.out hk, HQ9.out.ft⟩
  clear hbag hk HQ9 HT
  go_wp2_with fail
  refine (bagApart_b g X.heap.size bv1 _ w10 S10.out.2.1 S10.out.1.lies S10.out.1.apart (by simp) S10.out.1.few).mono ?_
  rintro _ w11 ⟨rfl, hT⟩
  have S11 : Hid (Below w.heap.size w w11 ∧ Owns w11 K (.slice c0 c1 c2) (wBytM ⟨p0, p1, p2, p3, p4⟩) ∧ Owns w11 K (.slice x0 x1 x2) (wBytM ⟨p0, p1, p2, p3, p4⟩)) := by
    have hown : ∀ v bs, Owns w10 K v bs → Owns w11 K v bs := fun v bs h => by
      have hlt := h.lt
      obtain ⟨q1, q2 | ⟨gv, cap, cur, rfl, z2, z3, z4⟩⟩ := h
      · exact ⟨q1, .inl q2⟩
      · refine ⟨q1, .inr ⟨gv, cap, cur, rfl, z2, ?_, z4⟩⟩
        rw [hT.same gv (lt_of_block z3) (fun x hs => ?_)]
        · exact z3
        · obtain ⟨q, hq, hfq⟩ := hs
          have h1 := S10.out.2.2.2.2.2 q hq gv x hfq
          have h2 := (hlt gv rfl).1
          omega
    refine ⟨S10.out.2.2.1.trans (hT.below S10.out.2.2.1.size (fun k x hs => by
      obtain ⟨q, hq, hfq⟩ := hs
      exact Nat.le_trans HW.out (S10.out.1.base q hq k x hfq))), hown _ _ S10.out.2.2.2.1, hown _ _ S10.out.2.2.2.2.1⟩
  clear hT S10
  go_wp2_with fail
  refine (eqBytes_alike _ _ (wBytM ⟨p0, p1, p2, p3, p4⟩) w11 (Sees.own S11.out.2.1) (Sees.own S11.out.2.2)).mono ?_
  rintro _ w12 ⟨rfl, b⟩
  have HF : Hid (Below w.heap.size w w12) := S11.out.1.trans (b.mono S11.out.1.size)
  clear b S11
  go_wp2_with fail
  go_ret
  exact ⟨rfl, HF.out⟩
end Go.Proofs.YtiakjeomedijkaaGreatDoor
