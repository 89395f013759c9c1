/- LinkSpoilt of the statements of layer 22, walked: true for all that came in. -/
import Derived.Test.YtldcbabgommghaaGreatDoorLsAJ
import Derived.Test.YtldcbabgommghaaGreatDoorWdRJ
import Derived.Test.YtldcbabgommghaaGreatDoorPkUJ
import Derived.Test.YtldcbabgommghaaGreatDoorPkVJ
namespace Go.Proofs.YtldcbabgommghaaGreatDoor
open Go.RowKit
set_option maxRecDepth 8000
set_option linter.unusedSimpArgs false
set_option linter.unusedVariables false

theorem bys_fold (p : PkD) : ∀ (L : List Nat) (d : PkD), (∀ j ∈ L, rgB j p = true) → d.bys.length ≤ 4096 → (L.foldl (fun d j => setF j p d) d).bys.length ≤ 4096
  | [], d, _, h => h
  | j :: L, d, hL, h => by
    rw [List.foldl_cons]
    refine bys_fold p L _ (fun i hi => hL i (by simp [hi])) ?_
    have hj := hL j (by simp)
    unfold setF
    split
    all_goals first | exact h | skip
    have : decide (1 ≤ p.bys.length ∧ p.bys.length ≤ 4096) = true := hj
    exact (of_decide_eq_true this).2
theorem bys_le {p : PkD} {tz : Bool} (hz : tz = true ↔ p.tx = txN) (h : chkP p tz = true) : p.bys.length ≤ 4096 := by
  have := bys_fold p (fldsP p) (pkZ p.kind) (chk_all h) (Nat.zero_le _)
  rw [pk_fold hz h] at this
  exact this
theorem MsOk.apart {w : World} {m : MsD} (h : MsOk w m) {b : Nat} {n : Int} {v : Value} {l : List MsD} (g : Nt w b n v l) : ¬ (m.g = b ∨ v.ownBlock = some m.g) := fun e => by
  obtain ⟨cs, e1⟩ := rowTl h.ow rfl
  rcases e with e | e
  · have := g.hb; rw [← e, e1] at this; simp at this
  · obtain ⟨cs', e2⟩ := rowTl g.ho e; rw [e1] at e2; simp at e2
theorem okS_pk (L : Nat) (h1 : 1 ≤ L) (h2 : L ≤ 8192) : okS 2 1 0 L = true := by simp [okS, hasL, h1, h2]

set_option maxHeartbeats 16000000 in
theorem spoilt_walk (p : PkD) (tc : List Value) (bv : Value) (at_ xor_ : Int) (w : World) (hn : Nam w) (hp : PNam w) (hg : p.good) (hs : SeesPk w tc bv p) (b0 : 0 ≤ xor_) (b1 : xor_ ≤ 255) :
    Calls Tryz.prog 3 #[.agg (pkL p tc bv).toArray, .int .i64 at_, .int .u8 xor_] w fun r w' => r = .returned (.bool true) ∧ Below w.heap.size w w' := by
  obtain ⟨tz, HZ⟩ : ∃ tz : Bool, Hid (tz = true ↔ p.tx = txN) := by
    by_cases h : p.tx = txN
    · exact ⟨true, fun _ => h, fun _ => rfl⟩
    · exact ⟨false, fun e => (by cases e), fun e => absurd e h⟩
  have q32 := pkSz p tc bv hs.tx.len
  obtain ⟨W, hW⟩ : ∃ W, W = w.alloc (.cells (pkL p tc bv).toArray 39) := ⟨_, rfl⟩
  have HW : Hid (PkH w p tc bv W) := by rw [hW]; exact PkH.box hs hn hp
  have HG : Hid (p.good ∧ (0 ≤ xor_ ∧ xor_ ≤ 255) ∧ Byts p.bys) := ⟨hg, ⟨b0, b1⟩, hs.byt⟩
  have HA : Hid _ := hW
  obtain ⟨rc, hrc, hrq⟩ := id hs.tx
  have q11 : (Tryz.prog.info? 35).map (·.size) = some rc.length := by rw [hrq.len]; exact rqSz
  have HRC : Hid (∀ V, PkH w p tc bv V → V.rangeAt w.heap.size 19 rc ∧ SeesRq V rc p.tx.rq) := fun V hV => by
    refine ⟨fun j v hj => ?_, hrq.later hV.bel (Nat.le_refl _)⟩
    have := (hV.at_.tail hs.tx.len).1 (5 + j) v (by rw [hrc, List.getElem?_append_right (by simp [txHead])]; simpa [txHead] using hj)
    rw [show 14 + (5 + j) = 19 + j by omega] at this
    exact this
  clear hW hs hn hp hg hrc hrq
  go_enter Tryz.func3, Tryz.ntmps3
  go_upto_region 1 with fail
  rw [← HA.out]
  clear HA
  go_wp2_with fail
  refine (works22 W).mono ?_
  rintro _ w1 ⟨rfl, e1⟩
  have H1 : Hid (PkH w p tc bv w1) := HW.out.later e1
  clear e1 HW
  obtain ⟨l19, hrq1⟩ := HRC.out w1 H1.out
  have r0 := H1.out.at_
  unfold PkAt at r0
  go_wp2_with (first | (refine load_midG (by kernel_rfl) 35 _ rfl w.heap.size 19 rfl rc _ l19 Tryz.underlying35 rfl q11 ?_) | (refine load_rowG (by kernel_rfl) 39 _ rfl w.heap.size rfl 39 _ (0, 0) _ r0 Tryz.underlying39 rfl q32 ?_))
  refine (large_any p.tx.rq rc w1 hrq1 HG.out.1.tx.rq).mono ?_
  rintro _ w2 ⟨bl, rfl, hbl, e2⟩
  have H2 : Hid (PkH w p tc bv w2) := H1.out.later e2
  clear e2 H1 l19 hrq1 HRC r0
  have r0 := H2.out.at_
  unfold PkAt at r0
  cases bl with
  | true =>
    clear hbl r0
    go_wp2_with fail
    go_ret
    exact ⟨rfl, H2.out.bel⟩
  | false =>
  have HPA : Hid (p.tx.rq.parts ≤ 20000) := hbl rfl
  clear hbl
  go_wp2_with (refine load_rowG (by kernel_rfl) 39 _ rfl w.heap.size rfl 39 _ (0, 0) _ r0 Tryz.underlying39 rfl q32 ?_)
  clear r0
  refine (refChk15 p tc bv tz HZ.out _ HG.out.1 H2.out.pk).mono ?_
  rintro _ w3 ⟨rfl, e3⟩
  have H3 : Hid (PkH w p tc bv w3) := H2.out.later e3
  rw [← chk_doc HG.out.1]
  clear e3 H2
  have r0 := H3.out.at_
  unfold PkAt at r0
  cases hc : chkP p tz with
  | false =>
    clear hc
    go_wp2_with fail
    go_ret
    exact ⟨rfl, H3.out.bel⟩
  | true =>
  have HC : Hid (chkP p tz = true) := hc
  clear hc
  go_wp2_with (refine load_rowG (by kernel_rfl) 39 _ rfl w.heap.size rfl 39 _ (0, 0) _ r0 Tryz.underlying39 rfl q32 ?_)
  clear r0
  refine (copyPacket_any p tc bv _ H3.out.pk HPA.out (by have := bys_le HZ.out HC.out; omega)).mono ?_
  rintro _ w4 ⟨tc4, bv4, rfl, hpk4, e4⟩
  have H4 : Hid (PkH w p tc bv w4 ∧ SeesPk w4 tc4 bv4 p) := ⟨H3.out.later e4, hpk4⟩
  clear e4 H3 hpk4
  go_wp2_with fail
  refine (writeP_good p tc4 bv4 tz HZ.out _ HG.out.1 H4.out.2 H4.out.1.nam H4.out.1.pnam HC.out).mono ?_
  rintro _ w5 ⟨v, rfl, ho, e5⟩
  have hpos : 4 < (pkB p).length := by have := body_pos p; rw [pkB_len]; omega
  have hle : (pkB p).length ≤ 8192 := by have := body_le HC.out; rw [pkB_len]; omega
  obtain ⟨g, cp, rfl⟩ : ∃ g c, v = .slice (some ⟨g, 0, none⟩) (pkB p).length c := by
    rcases ho.2 with ⟨_, h0⟩ | ⟨g, cap, cur, e, _⟩
    · omega
    · exact ⟨g, cap, e⟩
  have hbyB : Byts (pkB p) := by
    have h4 : Byts (be4 (adler (bodyP p))) := byts4 _ (adler_bd _).1 (adler_bd _).2
    exact Byts.append h4 (body_byts p HG.out.1 HG.out.2.2 (chk_all HC.out))
  have H5 : Hid (PkH w p tc bv w5 ∧ Sees w5 (.slice (some ⟨g, 0, none⟩) (pkB p).length cp) (pkB p) ∧ Byts (pkB p)) := ⟨H4.out.1.later e5, Sees.own (row_lowerl ho (Nat.zero_le _)), hbyB⟩
  clear e5 H4 ho hbyB
  have HNW : Hid _ := new_good w5 2 (by decide) (by decide)
  go_wp2_with fail
  refine Calls.mono HNW.out ?_
  rintro _ w6 ⟨rfl, h6, b6⟩
  have hs6 : w5.heap.size < w6.heap.size := lt_of_block h6.hb
  have HS : Hid (Calls Tryz.prog 10 #[.pointer (some ⟨w5.heap.size, 0, none⟩), .int .i8 1, .int .i8 0, .slice (some ⟨g, 0, none⟩) (pkB p).length cp] w6 fun e w' => e = .returned (.int .i64 0) ∧ ∃ v' R, Nt w' w5.heap.size 2 v' [⟨1, 0, pkB p, false, R, 0, (pkB p).length⟩] ∧ Below w5.heap.size w5 w' ∧ (∀ k, v'.ownBlock = some k → w5.heap.size ≤ k) ∧ w5.heap.size ≤ R) := by
    refine Calls.mono (send_yes h6 1 0 (by decide) (by decide) (by decide) (by decide) g 0 cp (pkB p) (H5.out.2.1.below b6 (Nat.le_refl _)) H5.out.2.2 (Nat.zero_le _) (okS_pk _ (by omega) hle)) ?_
    rintro _ w7 ⟨rfl, v', R, g1, g2, g3, g4⟩
    refine ⟨rfl, v', R, g1, b6.trans (Kept.below g2 (B := w5.heap.size) (by omega) (fun k e => by
      rcases e with e | e
      · omega
      · simp [Value.ownBlock] at e)), fun k e => ?_, by omega⟩
    rcases g3 with h | ⟨k', h, h3⟩
    · rw [h] at e; simp [Value.ownBlock] at e
    · rw [h] at e; simp at e; omega
  clear HNW h6 b6
  go_wp2_with fail
  refine Calls.mono HS.out ?_
  rintro _ w7 ⟨rfl, v7, R7, h7, b7, hv7, hR7⟩
  clear HS
  have HD : Hid (Calls Tryz.prog 11 #[.pointer (some ⟨w5.heap.size, 0, none⟩), .int .i64 0] w7 fun e w' => e = .returned (.int .i64 0) ∧ ∃ v' R, Nt w' w5.heap.size 2 v' [⟨1, 0, pkB p, false, R7, 0, (pkB p).length⟩, ⟨1, 0, pkB p, false, R, 0, (pkB p).length⟩] ∧ Below w5.heap.size w5 w' ∧ (∀ k, v'.ownBlock = some k → w5.heap.size ≤ k)) := by
    refine Calls.mono (double_yes (p := 0) h7 rfl (Nat.le_of_ble_eq_true rfl)) ?_
    rintro _ w8 ⟨rfl, v', R, g1, g2, g3, g4⟩
    have hz7 := b7.size
    refine ⟨rfl, v', R, g1, b7.trans (Kept.below g2 (B := w5.heap.size) (by omega) (fun k e => e.elim (fun e => by omega) (hv7 k))), fun k e => ?_⟩
    rcases g3 with h | ⟨k', h, h3⟩
    · rw [h] at e; exact hv7 k e
    · rw [h] at e; simp at e; omega
  clear h7 b7 hv7
  go_wp2_with fail
  refine Calls.mono HD.out ?_
  rintro _ w8 ⟨rfl, v8, R8, h8, b8, hv8⟩
  have H8 : Hid (Nt w8 w5.heap.size 2 v8 [⟨1, 0, pkB p, false, R7, 0, (pkB p).length⟩, ⟨1, 0, pkB p, false, R8, 0, (pkB p).length⟩] ∧ Below w5.heap.size w5 w8 ∧ (∀ k, v8.ownBlock = some k → w5.heap.size ≤ k) ∧ w5.heap.size ≤ R7) := ⟨h8, b8, hv8, hR7⟩
  clear HD h8 b8 hv8 hR7
  have hposI : (4 : Int) < ((pkB p).length : Int) := by omega
  by_cases c1 : 0 ≤ at_
  · have d1 : decide (0 ≤ at_) = true := decide_eq_true c1
    by_cases c2 : at_ < ((pkB p).length : Int)
    · have d2 : decide (at_ < ((pkB p).length : Int)) = true := decide_eq_true c2
      by_cases c3 : xor_ = 0
      · subst c3
        have HE : Hid (spE ⟨1, 0, pkB p, false, R7, 0, (pkB p).length⟩ at_ 0 = 1) := by show _ = _; unfold spE; rw [if_pos (.inr (.inr rfl))]
        have HSP : Hid (Calls Tryz.prog 12 #[.pointer (some ⟨w5.heap.size, 0, none⟩), .int .i64 0, .int .i64 at_, .int .u8 0] w8 fun e w' => e = .returned (.int .i64 1) ∧ Below w8.heap.size w8 w') := by
          have := spoil_no (p := 0) H8.out.1 rfl at_ 0 (by rw [HE.out]; decide)
          rw [HE.out] at this
          exact this
        go_wp2_with fail
        refine Calls.mono HSP.out ?_
        rintro _ w9 ⟨rfl, e9⟩
        have H9 : Hid (Nt w9 w5.heap.size 2 v8 [⟨1, 0, pkB p, false, R7, 0, (pkB p).length⟩, ⟨1, 0, pkB p, false, R8, 0, (pkB p).length⟩] ∧ Below w5.heap.size w5 w9 ∧ (∀ k, v8.ownBlock = some k → w5.heap.size ≤ k)) := ⟨H8.out.1.below e9, H8.out.2.1.trans (e9.mono H8.out.2.1.size), H8.out.2.2.1⟩
        clear e9 H8 HE HSP c1 d1
        try clear c2 d2
        try clear c3 d3 d3'
        have HT1 : Hid (Calls Tryz.prog 13 #[.pointer (some ⟨w5.heap.size, 0, none⟩), .int .i64 0] w9 fun e w' => e = .returned (.tuple #[.agg #[.int .i8 1, .int .i8 0, .slice (some ⟨R7, 0, none⟩) ((pkB p)).length (pkB p).length, .bool false], .int .i64 0]) ∧ ∃ v', Nt w' w5.heap.size 2 v' [⟨1, 0, pkB p, false, R8, 0, (pkB p).length⟩] ∧ Below w5.heap.size w5 w' ∧ (∀ k, v'.ownBlock = some k → w5.heap.size ≤ k) ∧ MsOk w' ⟨1, 0, (pkB p), false, R7, 0, (pkB p).length⟩) := by
          refine Calls.mono (take_yes (A := []) (B := [⟨1, 0, pkB p, false, R8, 0, (pkB p).length⟩]) (x := ⟨1, 0, (pkB p), false, R7, 0, (pkB p).length⟩) H9.out.1 (Nat.le_of_ble_eq_true rfl)) ?_
          rintro _ w' ⟨rfl, v', g1, g2, g3, g4⟩
          exact ⟨rfl, v', g1, H9.out.2.1.trans (Kept.below g2 (B := w5.heap.size) H9.out.2.1.size (fun k e => e.elim (fun e => by omega) (H9.out.2.2 k))), fun k e => H9.out.2.2 k (by rw [← g3]; exact e), g4⟩
        clear H9
        go_wp2_with fail
        refine Calls.mono HT1.out ?_
        rintro _ w10 ⟨rfl, v10, h10, b10, hv10, hm10⟩
        obtain ⟨w11, hw11⟩ : ∃ w11, w11 = w10.alloc (.cells #[.int .i8 1, .int .i8 0, .slice (some ⟨R7, 0, none⟩) ((pkB p)).length (pkB p).length, .bool false] 54) := ⟨_, rfl⟩
        have H11 : Hid ((Nt w11 w5.heap.size 2 v10 [⟨1, 0, pkB p, false, R8, 0, (pkB p).length⟩] ∧ Below w5.heap.size w5 w11 ∧ (∀ k, v10.ownBlock = some k → w5.heap.size ≤ k)) ∧ MsOk w11 ⟨1, 0, (pkB p), false, R7, 0, (pkB p).length⟩ ∧ w11.heap[w10.heap.size]? = some (.cells #[.int .i8 1, .int .i8 0, .slice (some ⟨R7, 0, none⟩) ((pkB p)).length (pkB p).length, .bool false] 54 (0, 0)) ∧ (∀ k, k = w5.heap.size ∨ v10.ownBlock = some k → k ≠ w10.heap.size)) := by
          have o := oneL w10 (.cells #[.int .i8 1, .int .i8 0, .slice (some ⟨R7, 0, none⟩) ((pkB p)).length (pkB p).length, .bool false] 54)
          have hnw := heap_alloc_new w10 (.cells #[.int .i8 1, .int .i8 0, .slice (some ⟨R7, 0, none⟩) ((pkB p)).length (pkB p).length, .bool false] 54)
          rw [← hw11] at o hnw
          refine ⟨⟨h10.below o, b10.trans (o.mono b10.size), hv10⟩, hm10.kept (Below.kept o) (by have := hm10.lt; omega), hnw, fun k e => ?_⟩
          have : k < w10.heap.size := h10.lt (e.elim .inl (fun e => .inr (.inl e)))
          omega
        clear HT1 h10 b10 hv10 hm10
        go_upto_region 16 with fail
        rw [← hw11]
        clear hw11
        generalize w10.heap.size = bo at *
        have HT2 : Hid (Calls Tryz.prog 13 #[.pointer (some ⟨w5.heap.size, 0, none⟩), .int .i64 0] w11 fun e w' => e = .returned (.tuple #[.agg #[.int .i8 1, .int .i8 0, .slice (some ⟨R8, 0, none⟩) (pkB p).length (pkB p).length, .bool false], .int .i64 0]) ∧ Below w5.heap.size w5 w' ∧ MsOk w' ⟨1, 0, (pkB p), false, R7, 0, (pkB p).length⟩ ∧ w'.heap[bo]? = some (.cells #[.int .i8 1, .int .i8 0, .slice (some ⟨R7, 0, none⟩) ((pkB p)).length (pkB p).length, .bool false] 54 (0, 0)) ∧ MsOk w' ⟨1, 0, pkB p, false, R8, 0, (pkB p).length⟩) := by
          refine Calls.mono (take_yes (A := []) (B := []) (x := ⟨1, 0, pkB p, false, R8, 0, (pkB p).length⟩) H11.out.1.1 (Nat.le_of_ble_eq_true rfl)) ?_
          rintro _ w' ⟨rfl, v', g1, g2, g3, g4⟩
          exact ⟨rfl, H11.out.1.2.1.trans (Kept.below g2 (B := w5.heap.size) H11.out.1.2.1.size (fun k e => e.elim (fun e => by omega) (H11.out.1.2.2 k))), H11.out.2.1.kept g2 (H11.out.2.1.apart H11.out.1.1), g2.heap H11.out.2.2.1 (fun e => H11.out.2.2.2 bo e rfl), g4⟩
        clear H11
        go_wp2_with fail
        refine Calls.mono HT2.out ?_
        rintro _ w12 ⟨rfl, b12, ho12, hb12, ht12⟩
        obtain ⟨w13, hw13⟩ : ∃ w13, w13 = w12.alloc (.cells #[.int .i8 1, .int .i8 0, .slice (some ⟨R8, 0, none⟩) (pkB p).length (pkB p).length, .bool false] 54) := ⟨_, rfl⟩
        have H13 : Hid (PkH w p tc bv w13 ∧ (w13.heap[bo]? = some (.cells #[.int .i8 1, .int .i8 0, .slice (some ⟨R7, 0, none⟩) ((pkB p)).length (pkB p).length, .bool false] 54 (0, 0)) ∧ w13.heap[w12.heap.size]? = some (.cells #[.int .i8 1, .int .i8 0, .slice (some ⟨R8, 0, none⟩) (pkB p).length (pkB p).length, .bool false] 54 (0, 0))) ∧ Sees w13 (.slice (some ⟨R7, 0, none⟩) ((pkB p)).length (pkB p).length) ((pkB p)) ∧ Sees w13 (.slice (some ⟨R8, 0, none⟩) (pkB p).length (pkB p).length) (pkB p)) := by
          have o := oneL w12 (.cells #[.int .i8 1, .int .i8 0, .slice (some ⟨R8, 0, none⟩) (pkB p).length (pkB p).length, .bool false] 54)
          have hnw := heap_alloc_new w12 (.cells #[.int .i8 1, .int .i8 0, .slice (some ⟨R8, 0, none⟩) (pkB p).length (pkB p).length, .bool false] 54)
          rw [← hw13] at o hnw
          exact ⟨H5.out.1.later (b12.trans (o.mono b12.size)), ⟨boxL hb12 o, hnw⟩, ho12.sees.below o (Nat.le_refl _), ht12.sees.below o (Nat.le_refl _)⟩
        clear HT2 b12 ho12 hb12 ht12
        go_upto_region 17 with fail
        rw [← hw13]
        clear hw13
        generalize w12.heap.size = bt at *
        have t2 : w13.cell? ⟨bt, 2, none⟩ = some (.slice (some ⟨R8, 0, none⟩) (pkB p).length (pkB p).length) := by rw [cell_of_row _ _ _ _ _ _ H13.out.2.1.2]; rfl
        have hzt := lt_of_block H13.out.2.1.2
        go_wp2_with fail
        refine Calls.mono (readP_good p tz HZ.out HG.out.1 HG.out.2.2 HC.out _ w13 H13.out.2.2.2 H13.out.1.nam H13.out.1.pnam) ?_
        rintro _ w13b ⟨tc13, bv13, rfl, hpk13, e13⟩
        have s13 : (w13b.alloc (.cells (zPk 0) 39)).heap[w13b.heap.size]? = some (.cells (zPk 0) 39 (0, 0)) := heap_alloc_new _ _
        have q32a := pkSz p tc13 bv13 hpk13.sees.tx.len
        have u1a : (pkL p tc13 bv13).toArray.all (·.oneCell') = true := pk_oneS hpk13.sees
        have sza : (zPk 0).size = (pkL p tc13 bv13).toArray.size := by simp [pkL, hpk13.sees.tx.len]
        obtain ⟨w14, hw14⟩ : ∃ W5, W5 = (w13b.alloc (.cells (zPk 0) 39)).setRow w13b.heap.size (pkL p tc13 bv13).toArray := ⟨_, rfl⟩
        have H14 : Hid (PkH w p tc bv w14 ∧ (w14.heap[bo]? = some (.cells #[.int .i8 1, .int .i8 0, .slice (some ⟨R7, 0, none⟩) ((pkB p)).length (pkB p).length, .bool false] 54 (0, 0)) ∧ w14.heap[bt]? = some (.cells #[.int .i8 1, .int .i8 0, .slice (some ⟨R8, 0, none⟩) (pkB p).length (pkB p).length, .bool false] 54 (0, 0))) ∧ Sees w14 (.slice (some ⟨R7, 0, none⟩) ((pkB p)).length (pkB p).length) ((pkB p)) ∧ w14.heap[w13b.heap.size]? = some (.cells (pkL p tc13 bv13).toArray 39 (0, 0)) ∧ SeesPk w14 tc13 bv13 p) := by
          have a := row_new w13b (zPk 0) (pkL p tc13 bv13).toArray 39
          rw [← hw14] at a
          have eb : Below w13.heap.size w13 w14 := e13.trans (a.1.mono e13.size)
          exact ⟨H13.out.1.later eb, ⟨boxL H13.out.2.1.1 eb, boxL H13.out.2.1.2 eb⟩, H13.out.2.2.1.below eb (Nat.le_refl _), a.2, hpk13.sees.below a.1 (Nat.le_refl _)⟩
        have HA14 : Hid _ := hw14
        clear hw14 hpk13 e13 H13 t2 hzt
        go_upto_region 18 with (refine wpList_store_row rfl 39 _ _ rfl w13b.heap.size (pkL p tc13 bv13).toArray rfl rfl 39 _ s13 q32a sza u1a ?_)
        rw [← HA14.out]
        clear HA14 s13
        generalize w13b.heap.size = bq at *
        have t2 : w14.cell? ⟨bo, 2, none⟩ = some (.slice (some ⟨R7, 0, none⟩) ((pkB p)).length (pkB p).length) := by rw [cell_of_row _ _ _ _ _ _ H14.out.2.1.1]; rfl
        have hzt := lt_of_block H14.out.2.1.1
        have HRD : Hid _ := readP_good p tz HZ.out HG.out.1 HG.out.2.2 HC.out _ w14 H14.out.2.2.1 H14.out.1.nam H14.out.1.pnam
        go_wp2_with fail
        refine Calls.mono HRD.out ?_
        rintro _ w15 ⟨tc15, bv15, rfl, hpk15, e15⟩
        have s15 : (w15.alloc (.cells (zPk 0) 39)).heap[w15.heap.size]? = some (.cells (zPk 0) 39 (0, 0)) := heap_alloc_new _ _
        have q32b := pkSz p tc15 bv15 hpk15.sees.tx.len
        have u1b : (pkL p tc15 bv15).toArray.all (·.oneCell') = true := pk_oneS hpk15.sees
        have szb : (zPk 0).size = (pkL p tc15 bv15).toArray.size := by simp [pkL, hpk15.sees.tx.len]
        obtain ⟨W15, hW15⟩ : ∃ W5, W5 = (w15.alloc (.cells (zPk 0) 39)).setRow w15.heap.size (pkL p tc15 bv15).toArray := ⟨_, rfl⟩
        have eb15 : Below w14.heap.size w14 W15 := by
          have a := row_new w15 (zPk 0) (pkL p tc15 bv15).toArray 39
          rw [← hW15] at a
          exact e15.trans (a.1.mono e15.size)
        have H15 : Hid (PkH w p tc bv W15 ∧ (W15.heap[bo]? = some (.cells #[.int .i8 1, .int .i8 0, .slice (some ⟨R7, 0, none⟩) ((pkB p)).length (pkB p).length, .bool false] 54 (0, 0)) ∧ W15.heap[bt]? = some (.cells #[.int .i8 1, .int .i8 0, .slice (some ⟨R8, 0, none⟩) (pkB p).length (pkB p).length, .bool false] 54 (0, 0))) ∧ W15.heap[bq]? = some (.cells (pkL p tc13 bv13).toArray 39 (0, 0)) ∧ SeesPk W15 tc13 bv13 p) :=
          ⟨H14.out.1.later eb15, ⟨boxL H14.out.2.1.1 eb15, boxL H14.out.2.1.2 eb15⟩, boxL H14.out.2.2.2.1 eb15, H14.out.2.2.2.2.below eb15 (Nat.le_refl _)⟩
        have HA15 : Hid _ := hW15
        clear hW15 eb15 e15 H14 t2 hzt HRD
        go_upto_region 19 with (refine wpList_store_row rfl 39 _ _ rfl w15.heap.size (pkL p tc15 bv15).toArray rfl rfl 39 _ s15 q32b szb u1b ?_)
        rw [← HA15.out]
        clear HA15 s15
        have r1 := H15.out.1.at_
        unfold PkAt at r1
        have r2 := H15.out.2.2.1
        have t3 : W15.cell? ⟨bo, 3, none⟩ = some (.bool false) := by rw [cell_of_row _ _ _ _ _ _ H15.out.2.1.1]; rfl
        have u3 : W15.cell? ⟨bt, 3, none⟩ = some (.bool false) := by rw [cell_of_row _ _ _ _ _ _ H15.out.2.1.2]; rfl
        have hz1 := lt_of_block H15.out.2.1.1
        have hz2 := lt_of_block H15.out.2.1.2
        go_wp2_with (first | (refine load_rowG (by kernel_rfl) 39 _ rfl w.heap.size rfl 39 _ (0, 0) _ r1 Tryz.underlying39 rfl q32 ?_) | (refine load_rowG (by kernel_rfl) 39 _ rfl bq rfl 39 _ (0, 0) _ r2 Tryz.underlying39 rfl q32a ?_))
        clear r1 r2 t3 u3 hz1 hz2
        refine (eqPk_same p tc tc13 bv bv13 _ H15.out.1.pk H15.out.2.2.2).mono ?_
        rintro _ w16 ⟨rfl, e16⟩
        have H16 : Hid (Below w.heap.size w w16) := H15.out.1.bel.trans (e16.mono H15.out.1.bel.size)
        clear e16 H15
        go_wp2_with fail
        go_ret
        exact ⟨rfl, H16.out⟩
      · have d3 : (xor_ == 0) = false := by simpa using c3
        have d3' : (xor_ != 0) = true := by rw [bne, d3]; rfl
        obtain ⟨k, rfl⟩ : ∃ k : Nat, at_ = k := ⟨at_.toNat, by omega⟩
        have hkL : k < (pkB p).length := by omega
        obtain ⟨BS, hBSe⟩ : ∃ BS, BS = (pkB p).set k (bits .xor .u8 ((pkB p).getD k 0) xor_) := ⟨_, rfl⟩
        have HSP : Hid (Calls Tryz.prog 12 #[.pointer (some ⟨w5.heap.size, 0, none⟩), .int .i64 0, .int .i64 (k : Nat), .int .u8 xor_] w8 fun e w' => e = .returned (.int .i64 0) ∧ Nt w' w5.heap.size 2 v8 [⟨1, 0, BS, true, R7, 0, (pkB p).length⟩, ⟨1, 0, pkB p, false, R8, 0, (pkB p).length⟩] ∧ Kept w8 w' (fun q => v8.ownBlock = some q ∨ q = R7)) := by
          rw [hBSe]
          refine spoil_yes (p := 0) H8.out.1 rfl HG.out.2.1.1 HG.out.2.1.2 ?_
          unfold spE
          rw [if_neg (by
            rintro (h | h | h)
            · omega
            · have h' : ((pkB p).length : Int) ≤ (k : Int) := h
              omega
            · exact c3 h)]
          rfl
        have hbb := body_byts p HG.out.1 HG.out.2.2 (chk_all HC.out)
        obtain ⟨s, ys, es, hby, hyl, hne⟩ := turn_split (bodyP p) k xor_ hbb (by rw [pkB_len] at hkL; exact hkL) (by have := HG.out.2.1.1; omega) HG.out.2.1.2
        rw [show be4 (adler (bodyP p)) ++ bodyP p = pkB p from rfl] at es
        have HYS : Hid (BS = be4 s ++ ys ∧ Byts (be4 s ++ ys) ∧ ys ≠ [] ∧ ys.length ≤ 8188 ∧ s ≠ adler ys) := by
          have := body_pos p
          have := body_le HC.out
          exact ⟨hBSe.trans es, hby, fun e => by rw [e] at hyl; simp at hyl; omega, by omega, hne⟩
        clear hbb es hby hyl hne hBSe
        go_wp2_with fail
        refine Calls.mono HSP.out ?_
        rintro _ w9 ⟨rfl, g1, g2⟩
        have H9 : Hid (Nt w9 w5.heap.size 2 v8 [⟨1, 0, BS, true, R7, 0, (pkB p).length⟩, ⟨1, 0, pkB p, false, R8, 0, (pkB p).length⟩] ∧ Below w5.heap.size w5 w9 ∧ (∀ k, v8.ownBlock = some k → w5.heap.size ≤ k)) := ⟨g1, H8.out.2.1.trans (g2.below H8.out.2.1.size (fun q e => e.elim (H8.out.2.2.1 q) (fun e => by have := H8.out.2.2.2; omega))), H8.out.2.2.1⟩
        clear g1 g2 H8 HSP c1 d1 c2 d2 c3 d3 d3'
        have HT1 : Hid (Calls Tryz.prog 13 #[.pointer (some ⟨w5.heap.size, 0, none⟩), .int .i64 0] w9 fun e w' => e = .returned (.tuple #[.agg #[.int .i8 1, .int .i8 0, .slice (some ⟨R7, 0, none⟩) (BS).length (pkB p).length, .bool true], .int .i64 0]) ∧ ∃ v', Nt w' w5.heap.size 2 v' [⟨1, 0, pkB p, false, R8, 0, (pkB p).length⟩] ∧ Below w5.heap.size w5 w' ∧ (∀ k, v'.ownBlock = some k → w5.heap.size ≤ k) ∧ MsOk w' ⟨1, 0, BS, true, R7, 0, (pkB p).length⟩) := by
          refine Calls.mono (take_yes (A := []) (B := [⟨1, 0, pkB p, false, R8, 0, (pkB p).length⟩]) (x := ⟨1, 0, BS, true, R7, 0, (pkB p).length⟩) H9.out.1 (Nat.le_of_ble_eq_true rfl)) ?_
          rintro _ w' ⟨rfl, v', g1, g2, g3, g4⟩
          exact ⟨rfl, v', g1, H9.out.2.1.trans (Kept.below g2 (B := w5.heap.size) H9.out.2.1.size (fun k e => e.elim (fun e => by omega) (H9.out.2.2 k))), fun k e => H9.out.2.2 k (by rw [← g3]; exact e), g4⟩
        clear H9
        go_wp2_with fail
        refine Calls.mono HT1.out ?_
        rintro _ w10 ⟨rfl, v10, h10, b10, hv10, hm10⟩
        obtain ⟨w11, hw11⟩ : ∃ w11, w11 = w10.alloc (.cells #[.int .i8 1, .int .i8 0, .slice (some ⟨R7, 0, none⟩) (BS).length (pkB p).length, .bool true] 54) := ⟨_, rfl⟩
        have H11 : Hid ((Nt w11 w5.heap.size 2 v10 [⟨1, 0, pkB p, false, R8, 0, (pkB p).length⟩] ∧ Below w5.heap.size w5 w11 ∧ (∀ k, v10.ownBlock = some k → w5.heap.size ≤ k)) ∧ MsOk w11 ⟨1, 0, BS, true, R7, 0, (pkB p).length⟩ ∧ w11.heap[w10.heap.size]? = some (.cells #[.int .i8 1, .int .i8 0, .slice (some ⟨R7, 0, none⟩) (BS).length (pkB p).length, .bool true] 54 (0, 0)) ∧ (∀ k, k = w5.heap.size ∨ v10.ownBlock = some k → k ≠ w10.heap.size)) := by
          have o := oneL w10 (.cells #[.int .i8 1, .int .i8 0, .slice (some ⟨R7, 0, none⟩) (BS).length (pkB p).length, .bool true] 54)
          have hnw := heap_alloc_new w10 (.cells #[.int .i8 1, .int .i8 0, .slice (some ⟨R7, 0, none⟩) (BS).length (pkB p).length, .bool true] 54)
          rw [← hw11] at o hnw
          refine ⟨⟨h10.below o, b10.trans (o.mono b10.size), hv10⟩, hm10.kept (Below.kept o) (by have := hm10.lt; omega), hnw, fun k e => ?_⟩
          have : k < w10.heap.size := h10.lt (e.elim .inl (fun e => .inr (.inl e)))
          omega
        clear HT1 h10 b10 hv10 hm10
        go_upto_region 16 with fail
        rw [← hw11]
        clear hw11
        generalize w10.heap.size = bo at *
        have HT2 : Hid (Calls Tryz.prog 13 #[.pointer (some ⟨w5.heap.size, 0, none⟩), .int .i64 0] w11 fun e w' => e = .returned (.tuple #[.agg #[.int .i8 1, .int .i8 0, .slice (some ⟨R8, 0, none⟩) (pkB p).length (pkB p).length, .bool false], .int .i64 0]) ∧ Below w5.heap.size w5 w' ∧ MsOk w' ⟨1, 0, BS, true, R7, 0, (pkB p).length⟩ ∧ w'.heap[bo]? = some (.cells #[.int .i8 1, .int .i8 0, .slice (some ⟨R7, 0, none⟩) (BS).length (pkB p).length, .bool true] 54 (0, 0)) ∧ MsOk w' ⟨1, 0, pkB p, false, R8, 0, (pkB p).length⟩) := by
          refine Calls.mono (take_yes (A := []) (B := []) (x := ⟨1, 0, pkB p, false, R8, 0, (pkB p).length⟩) H11.out.1.1 (Nat.le_of_ble_eq_true rfl)) ?_
          rintro _ w' ⟨rfl, v', g1, g2, g3, g4⟩
          exact ⟨rfl, H11.out.1.2.1.trans (Kept.below g2 (B := w5.heap.size) H11.out.1.2.1.size (fun k e => e.elim (fun e => by omega) (H11.out.1.2.2 k))), H11.out.2.1.kept g2 (H11.out.2.1.apart H11.out.1.1), g2.heap H11.out.2.2.1 (fun e => H11.out.2.2.2 bo e rfl), g4⟩
        clear H11
        go_wp2_with fail
        refine Calls.mono HT2.out ?_
        rintro _ w12 ⟨rfl, b12, ho12, hb12, ht12⟩
        obtain ⟨w13, hw13⟩ : ∃ w13, w13 = w12.alloc (.cells #[.int .i8 1, .int .i8 0, .slice (some ⟨R8, 0, none⟩) (pkB p).length (pkB p).length, .bool false] 54) := ⟨_, rfl⟩
        have H13 : Hid (PkH w p tc bv w13 ∧ (w13.heap[bo]? = some (.cells #[.int .i8 1, .int .i8 0, .slice (some ⟨R7, 0, none⟩) (BS).length (pkB p).length, .bool true] 54 (0, 0)) ∧ w13.heap[w12.heap.size]? = some (.cells #[.int .i8 1, .int .i8 0, .slice (some ⟨R8, 0, none⟩) (pkB p).length (pkB p).length, .bool false] 54 (0, 0))) ∧ Sees w13 (.slice (some ⟨R7, 0, none⟩) (BS).length (pkB p).length) (BS) ∧ Sees w13 (.slice (some ⟨R8, 0, none⟩) (pkB p).length (pkB p).length) (pkB p)) := by
          have o := oneL w12 (.cells #[.int .i8 1, .int .i8 0, .slice (some ⟨R8, 0, none⟩) (pkB p).length (pkB p).length, .bool false] 54)
          have hnw := heap_alloc_new w12 (.cells #[.int .i8 1, .int .i8 0, .slice (some ⟨R8, 0, none⟩) (pkB p).length (pkB p).length, .bool false] 54)
          rw [← hw13] at o hnw
          exact ⟨H5.out.1.later (b12.trans (o.mono b12.size)), ⟨boxL hb12 o, hnw⟩, ho12.sees.below o (Nat.le_refl _), ht12.sees.below o (Nat.le_refl _)⟩
        clear HT2 b12 ho12 hb12 ht12
        go_upto_region 17 with fail
        rw [← hw13]
        clear hw13
        generalize w12.heap.size = bt at *
        have t2 : w13.cell? ⟨bt, 2, none⟩ = some (.slice (some ⟨R8, 0, none⟩) (pkB p).length (pkB p).length) := by rw [cell_of_row _ _ _ _ _ _ H13.out.2.1.2]; rfl
        have hzt := lt_of_block H13.out.2.1.2
        go_wp2_with fail
        refine Calls.mono (readP_good p tz HZ.out HG.out.1 HG.out.2.2 HC.out _ w13 H13.out.2.2.2 H13.out.1.nam H13.out.1.pnam) ?_
        rintro _ w13b ⟨tc13, bv13, rfl, hpk13, e13⟩
        have s13 : (w13b.alloc (.cells (zPk 0) 39)).heap[w13b.heap.size]? = some (.cells (zPk 0) 39 (0, 0)) := heap_alloc_new _ _
        have q32a := pkSz p tc13 bv13 hpk13.sees.tx.len
        have u1a : (pkL p tc13 bv13).toArray.all (·.oneCell') = true := pk_oneS hpk13.sees
        have sza : (zPk 0).size = (pkL p tc13 bv13).toArray.size := by simp [pkL, hpk13.sees.tx.len]
        obtain ⟨w14, hw14⟩ : ∃ W5, W5 = (w13b.alloc (.cells (zPk 0) 39)).setRow w13b.heap.size (pkL p tc13 bv13).toArray := ⟨_, rfl⟩
        have H14 : Hid (PkH w p tc bv w14 ∧ (w14.heap[bo]? = some (.cells #[.int .i8 1, .int .i8 0, .slice (some ⟨R7, 0, none⟩) (BS).length (pkB p).length, .bool true] 54 (0, 0)) ∧ w14.heap[bt]? = some (.cells #[.int .i8 1, .int .i8 0, .slice (some ⟨R8, 0, none⟩) (pkB p).length (pkB p).length, .bool false] 54 (0, 0))) ∧ Sees w14 (.slice (some ⟨R7, 0, none⟩) (BS).length (pkB p).length) (BS) ∧ w14.heap[w13b.heap.size]? = some (.cells (pkL p tc13 bv13).toArray 39 (0, 0)) ∧ SeesPk w14 tc13 bv13 p) := by
          have a := row_new w13b (zPk 0) (pkL p tc13 bv13).toArray 39
          rw [← hw14] at a
          have eb : Below w13.heap.size w13 w14 := e13.trans (a.1.mono e13.size)
          exact ⟨H13.out.1.later eb, ⟨boxL H13.out.2.1.1 eb, boxL H13.out.2.1.2 eb⟩, H13.out.2.2.1.below eb (Nat.le_refl _), a.2, hpk13.sees.below a.1 (Nat.le_refl _)⟩
        have HA14 : Hid _ := hw14
        clear hw14 hpk13 e13 H13 t2 hzt
        go_upto_region 18 with (refine wpList_store_row rfl 39 _ _ rfl w13b.heap.size (pkL p tc13 bv13).toArray rfl rfl 39 _ s13 q32a sza u1a ?_)
        rw [← HA14.out]
        clear HA14 s13
        generalize w13b.heap.size = bq at *
        have t2 : w14.cell? ⟨bo, 2, none⟩ = some (.slice (some ⟨R7, 0, none⟩) (BS).length (pkB p).length) := by rw [cell_of_row _ _ _ _ _ _ H14.out.2.1.1]; rfl
        have hzt := lt_of_block H14.out.2.1.1
        have HRD : Hid (Calls Tryz.prog 14 #[.slice (some ⟨R7, 0, none⟩) BS.length (pkB p).length] w14 fun r w' => r = .returned (.tuple #[.agg (zPk 0), .int .i64 150]) ∧ Below w14.heap.size w14 w') := by
          have hsee := H14.out.2.2.1
          rw [HYS.out.1] at hsee ⊢
          exact readP_sum s ys HYS.out.2.1 HYS.out.2.2.1 HYS.out.2.2.2.1 HYS.out.2.2.2.2 _ w14 hsee H14.out.1.nam H14.out.1.pnam
        go_wp2_with fail
        refine Calls.mono HRD.out ?_
        rintro _ w15 ⟨rfl, e15⟩
        have s15 : (w15.alloc (.cells (zPk 0) 39)).heap[w15.heap.size]? = some (.cells (zPk 0) 39 (0, 0)) := heap_alloc_new _ _
        have q32b : (Tryz.prog.info? 39).map (·.size) = some (zPk 0).size := pkSz0
        have u1b : (zPk 0).all (·.oneCell') = true := by simp [Value.oneCell']
        obtain ⟨W15, hW15⟩ : ∃ W5, W5 = (w15.alloc (.cells (zPk 0) 39)).setRow w15.heap.size (zPk 0) := ⟨_, rfl⟩
        have eb15 : Below w14.heap.size w14 W15 := by
          have a := row_new w15 (zPk 0) (zPk 0) 39
          rw [← hW15] at a
          exact e15.trans (a.1.mono e15.size)
        have H15 : Hid (PkH w p tc bv W15 ∧ (W15.heap[bo]? = some (.cells #[.int .i8 1, .int .i8 0, .slice (some ⟨R7, 0, none⟩) (BS).length (pkB p).length, .bool true] 54 (0, 0)) ∧ W15.heap[bt]? = some (.cells #[.int .i8 1, .int .i8 0, .slice (some ⟨R8, 0, none⟩) (pkB p).length (pkB p).length, .bool false] 54 (0, 0))) ∧ W15.heap[bq]? = some (.cells (pkL p tc13 bv13).toArray 39 (0, 0)) ∧ SeesPk W15 tc13 bv13 p) :=
          ⟨H14.out.1.later eb15, ⟨boxL H14.out.2.1.1 eb15, boxL H14.out.2.1.2 eb15⟩, boxL H14.out.2.2.2.1 eb15, H14.out.2.2.2.2.below eb15 (Nat.le_refl _)⟩
        have HA15 : Hid _ := hW15
        clear hW15 eb15 e15 H14 t2 hzt HRD
        go_upto_region 19 with (refine wpList_store_row rfl 39 _ _ rfl w15.heap.size (zPk 0) rfl rfl 39 _ s15 q32b rfl u1b ?_)
        rw [← HA15.out]
        clear HA15 s15
        have r1 := H15.out.1.at_
        unfold PkAt at r1
        have r2 := H15.out.2.2.1
        have t3 : W15.cell? ⟨bo, 3, none⟩ = some (.bool true) := by rw [cell_of_row _ _ _ _ _ _ H15.out.2.1.1]; rfl
        have u3 : W15.cell? ⟨bt, 3, none⟩ = some (.bool false) := by rw [cell_of_row _ _ _ _ _ _ H15.out.2.1.2]; rfl
        have hz1 := lt_of_block H15.out.2.1.1
        have hz2 := lt_of_block H15.out.2.1.2
        go_wp2_with (first | (refine load_rowG (by kernel_rfl) 39 _ rfl w.heap.size rfl 39 _ (0, 0) _ r1 Tryz.underlying39 rfl q32 ?_) | (refine load_rowG (by kernel_rfl) 39 _ rfl bq rfl 39 _ (0, 0) _ r2 Tryz.underlying39 rfl q32a ?_))
        clear r1 r2 t3 u3 hz1 hz2
        refine (eqPk_same p tc tc13 bv bv13 _ H15.out.1.pk H15.out.2.2.2).mono ?_
        rintro _ w16 ⟨rfl, e16⟩
        have H16 : Hid (Below w.heap.size w w16) := H15.out.1.bel.trans (e16.mono H15.out.1.bel.size)
        clear e16 H15
        go_wp2_with fail
        go_ret
        exact ⟨rfl, H16.out⟩
    · have d2 : decide (at_ < ((pkB p).length : Int)) = false := decide_eq_false c2
      have HE : Hid (spE ⟨1, 0, pkB p, false, R7, 0, (pkB p).length⟩ at_ xor_ = 1) := by show _ = _; unfold spE; rw [if_pos (.inr (.inl (by show ((pkB p).length : Int) ≤ at_; omega)))]
      have HSP : Hid (Calls Tryz.prog 12 #[.pointer (some ⟨w5.heap.size, 0, none⟩), .int .i64 0, .int .i64 at_, .int .u8 xor_] w8 fun e w' => e = .returned (.int .i64 1) ∧ Below w8.heap.size w8 w') := by
        have := spoil_no (p := 0) H8.out.1 rfl at_ xor_ (by rw [HE.out]; decide)
        rw [HE.out] at this
        exact this
      go_wp2_with fail
      refine Calls.mono HSP.out ?_
      rintro _ w9 ⟨rfl, e9⟩
      have H9 : Hid (Nt w9 w5.heap.size 2 v8 [⟨1, 0, pkB p, false, R7, 0, (pkB p).length⟩, ⟨1, 0, pkB p, false, R8, 0, (pkB p).length⟩] ∧ Below w5.heap.size w5 w9 ∧ (∀ k, v8.ownBlock = some k → w5.heap.size ≤ k)) := ⟨H8.out.1.below e9, H8.out.2.1.trans (e9.mono H8.out.2.1.size), H8.out.2.2.1⟩
      clear e9 H8 HE HSP c1 d1
      try clear c2 d2
      try clear c3 d3 d3'
      have HT1 : Hid (Calls Tryz.prog 13 #[.pointer (some ⟨w5.heap.size, 0, none⟩), .int .i64 0] w9 fun e w' => e = .returned (.tuple #[.agg #[.int .i8 1, .int .i8 0, .slice (some ⟨R7, 0, none⟩) ((pkB p)).length (pkB p).length, .bool false], .int .i64 0]) ∧ ∃ v', Nt w' w5.heap.size 2 v' [⟨1, 0, pkB p, false, R8, 0, (pkB p).length⟩] ∧ Below w5.heap.size w5 w' ∧ (∀ k, v'.ownBlock = some k → w5.heap.size ≤ k) ∧ MsOk w' ⟨1, 0, (pkB p), false, R7, 0, (pkB p).length⟩) := by
        refine Calls.mono (take_yes (A := []) (B := [⟨1, 0, pkB p, false, R8, 0, (pkB p).length⟩]) (x := ⟨1, 0, (pkB p), false, R7, 0, (pkB p).length⟩) H9.out.1 (Nat.le_of_ble_eq_true rfl)) ?_
        rintro _ w' ⟨rfl, v', g1, g2, g3, g4⟩
        exact ⟨rfl, v', g1, H9.out.2.1.trans (Kept.below g2 (B := w5.heap.size) H9.out.2.1.size (fun k e => e.elim (fun e => by omega) (H9.out.2.2 k))), fun k e => H9.out.2.2 k (by rw [← g3]; exact e), g4⟩
      clear H9
      go_wp2_with fail
      refine Calls.mono HT1.out ?_
      rintro _ w10 ⟨rfl, v10, h10, b10, hv10, hm10⟩
      obtain ⟨w11, hw11⟩ : ∃ w11, w11 = w10.alloc (.cells #[.int .i8 1, .int .i8 0, .slice (some ⟨R7, 0, none⟩) ((pkB p)).length (pkB p).length, .bool false] 54) := ⟨_, rfl⟩
      have H11 : Hid ((Nt w11 w5.heap.size 2 v10 [⟨1, 0, pkB p, false, R8, 0, (pkB p).length⟩] ∧ Below w5.heap.size w5 w11 ∧ (∀ k, v10.ownBlock = some k → w5.heap.size ≤ k)) ∧ MsOk w11 ⟨1, 0, (pkB p), false, R7, 0, (pkB p).length⟩ ∧ w11.heap[w10.heap.size]? = some (.cells #[.int .i8 1, .int .i8 0, .slice (some ⟨R7, 0, none⟩) ((pkB p)).length (pkB p).length, .bool false] 54 (0, 0)) ∧ (∀ k, k = w5.heap.size ∨ v10.ownBlock = some k → k ≠ w10.heap.size)) := by
        have o := oneL w10 (.cells #[.int .i8 1, .int .i8 0, .slice (some ⟨R7, 0, none⟩) ((pkB p)).length (pkB p).length, .bool false] 54)
        have hnw := heap_alloc_new w10 (.cells #[.int .i8 1, .int .i8 0, .slice (some ⟨R7, 0, none⟩) ((pkB p)).length (pkB p).length, .bool false] 54)
        rw [← hw11] at o hnw
        refine ⟨⟨h10.below o, b10.trans (o.mono b10.size), hv10⟩, hm10.kept (Below.kept o) (by have := hm10.lt; omega), hnw, fun k e => ?_⟩
        have : k < w10.heap.size := h10.lt (e.elim .inl (fun e => .inr (.inl e)))
        omega
      clear HT1 h10 b10 hv10 hm10
      go_upto_region 16 with fail
      rw [← hw11]
      clear hw11
      generalize w10.heap.size = bo at *
      have HT2 : Hid (Calls Tryz.prog 13 #[.pointer (some ⟨w5.heap.size, 0, none⟩), .int .i64 0] w11 fun e w' => e = .returned (.tuple #[.agg #[.int .i8 1, .int .i8 0, .slice (some ⟨R8, 0, none⟩) (pkB p).length (pkB p).length, .bool false], .int .i64 0]) ∧ Below w5.heap.size w5 w' ∧ MsOk w' ⟨1, 0, (pkB p), false, R7, 0, (pkB p).length⟩ ∧ w'.heap[bo]? = some (.cells #[.int .i8 1, .int .i8 0, .slice (some ⟨R7, 0, none⟩) ((pkB p)).length (pkB p).length, .bool false] 54 (0, 0)) ∧ MsOk w' ⟨1, 0, pkB p, false, R8, 0, (pkB p).length⟩) := by
        refine Calls.mono (take_yes (A := []) (B := []) (x := ⟨1, 0, pkB p, false, R8, 0, (pkB p).length⟩) H11.out.1.1 (Nat.le_of_ble_eq_true rfl)) ?_
        rintro _ w' ⟨rfl, v', g1, g2, g3, g4⟩
        exact ⟨rfl, H11.out.1.2.1.trans (Kept.below g2 (B := w5.heap.size) H11.out.1.2.1.size (fun k e => e.elim (fun e => by omega) (H11.out.1.2.2 k))), H11.out.2.1.kept g2 (H11.out.2.1.apart H11.out.1.1), g2.heap H11.out.2.2.1 (fun e => H11.out.2.2.2 bo e rfl), g4⟩
      clear H11
      go_wp2_with fail
      refine Calls.mono HT2.out ?_
      rintro _ w12 ⟨rfl, b12, ho12, hb12, ht12⟩
      obtain ⟨w13, hw13⟩ : ∃ w13, w13 = w12.alloc (.cells #[.int .i8 1, .int .i8 0, .slice (some ⟨R8, 0, none⟩) (pkB p).length (pkB p).length, .bool false] 54) := ⟨_, rfl⟩
      have H13 : Hid (PkH w p tc bv w13 ∧ (w13.heap[bo]? = some (.cells #[.int .i8 1, .int .i8 0, .slice (some ⟨R7, 0, none⟩) ((pkB p)).length (pkB p).length, .bool false] 54 (0, 0)) ∧ w13.heap[w12.heap.size]? = some (.cells #[.int .i8 1, .int .i8 0, .slice (some ⟨R8, 0, none⟩) (pkB p).length (pkB p).length, .bool false] 54 (0, 0))) ∧ Sees w13 (.slice (some ⟨R7, 0, none⟩) ((pkB p)).length (pkB p).length) ((pkB p)) ∧ Sees w13 (.slice (some ⟨R8, 0, none⟩) (pkB p).length (pkB p).length) (pkB p)) := by
        have o := oneL w12 (.cells #[.int .i8 1, .int .i8 0, .slice (some ⟨R8, 0, none⟩) (pkB p).length (pkB p).length, .bool false] 54)
        have hnw := heap_alloc_new w12 (.cells #[.int .i8 1, .int .i8 0, .slice (some ⟨R8, 0, none⟩) (pkB p).length (pkB p).length, .bool false] 54)
        rw [← hw13] at o hnw
        exact ⟨H5.out.1.later (b12.trans (o.mono b12.size)), ⟨boxL hb12 o, hnw⟩, ho12.sees.below o (Nat.le_refl _), ht12.sees.below o (Nat.le_refl _)⟩
      clear HT2 b12 ho12 hb12 ht12
      go_upto_region 17 with fail
      rw [← hw13]
      clear hw13
      generalize w12.heap.size = bt at *
      have t2 : w13.cell? ⟨bt, 2, none⟩ = some (.slice (some ⟨R8, 0, none⟩) (pkB p).length (pkB p).length) := by rw [cell_of_row _ _ _ _ _ _ H13.out.2.1.2]; rfl
      have hzt := lt_of_block H13.out.2.1.2
      go_wp2_with fail
      refine Calls.mono (readP_good p tz HZ.out HG.out.1 HG.out.2.2 HC.out _ w13 H13.out.2.2.2 H13.out.1.nam H13.out.1.pnam) ?_
      rintro _ w13b ⟨tc13, bv13, rfl, hpk13, e13⟩
      have s13 : (w13b.alloc (.cells (zPk 0) 39)).heap[w13b.heap.size]? = some (.cells (zPk 0) 39 (0, 0)) := heap_alloc_new _ _
      have q32a := pkSz p tc13 bv13 hpk13.sees.tx.len
      have u1a : (pkL p tc13 bv13).toArray.all (·.oneCell') = true := pk_oneS hpk13.sees
      have sza : (zPk 0).size = (pkL p tc13 bv13).toArray.size := by simp [pkL, hpk13.sees.tx.len]
      obtain ⟨w14, hw14⟩ : ∃ W5, W5 = (w13b.alloc (.cells (zPk 0) 39)).setRow w13b.heap.size (pkL p tc13 bv13).toArray := ⟨_, rfl⟩
      have H14 : Hid (PkH w p tc bv w14 ∧ (w14.heap[bo]? = some (.cells #[.int .i8 1, .int .i8 0, .slice (some ⟨R7, 0, none⟩) ((pkB p)).length (pkB p).length, .bool false] 54 (0, 0)) ∧ w14.heap[bt]? = some (.cells #[.int .i8 1, .int .i8 0, .slice (some ⟨R8, 0, none⟩) (pkB p).length (pkB p).length, .bool false] 54 (0, 0))) ∧ Sees w14 (.slice (some ⟨R7, 0, none⟩) ((pkB p)).length (pkB p).length) ((pkB p)) ∧ w14.heap[w13b.heap.size]? = some (.cells (pkL p tc13 bv13).toArray 39 (0, 0)) ∧ SeesPk w14 tc13 bv13 p) := by
        have a := row_new w13b (zPk 0) (pkL p tc13 bv13).toArray 39
        rw [← hw14] at a
        have eb : Below w13.heap.size w13 w14 := e13.trans (a.1.mono e13.size)
        exact ⟨H13.out.1.later eb, ⟨boxL H13.out.2.1.1 eb, boxL H13.out.2.1.2 eb⟩, H13.out.2.2.1.below eb (Nat.le_refl _), a.2, hpk13.sees.below a.1 (Nat.le_refl _)⟩
      have HA14 : Hid _ := hw14
      clear hw14 hpk13 e13 H13 t2 hzt
      go_upto_region 18 with (refine wpList_store_row rfl 39 _ _ rfl w13b.heap.size (pkL p tc13 bv13).toArray rfl rfl 39 _ s13 q32a sza u1a ?_)
      rw [← HA14.out]
      clear HA14 s13
      generalize w13b.heap.size = bq at *
      have t2 : w14.cell? ⟨bo, 2, none⟩ = some (.slice (some ⟨R7, 0, none⟩) ((pkB p)).length (pkB p).length) := by rw [cell_of_row _ _ _ _ _ _ H14.out.2.1.1]; rfl
      have hzt := lt_of_block H14.out.2.1.1
      have HRD : Hid _ := readP_good p tz HZ.out HG.out.1 HG.out.2.2 HC.out _ w14 H14.out.2.2.1 H14.out.1.nam H14.out.1.pnam
      go_wp2_with fail
      refine Calls.mono HRD.out ?_
      rintro _ w15 ⟨tc15, bv15, rfl, hpk15, e15⟩
      have s15 : (w15.alloc (.cells (zPk 0) 39)).heap[w15.heap.size]? = some (.cells (zPk 0) 39 (0, 0)) := heap_alloc_new _ _
      have q32b := pkSz p tc15 bv15 hpk15.sees.tx.len
      have u1b : (pkL p tc15 bv15).toArray.all (·.oneCell') = true := pk_oneS hpk15.sees
      have szb : (zPk 0).size = (pkL p tc15 bv15).toArray.size := by simp [pkL, hpk15.sees.tx.len]
      obtain ⟨W15, hW15⟩ : ∃ W5, W5 = (w15.alloc (.cells (zPk 0) 39)).setRow w15.heap.size (pkL p tc15 bv15).toArray := ⟨_, rfl⟩
      have eb15 : Below w14.heap.size w14 W15 := by
        have a := row_new w15 (zPk 0) (pkL p tc15 bv15).toArray 39
        rw [← hW15] at a
        exact e15.trans (a.1.mono e15.size)
      have H15 : Hid (PkH w p tc bv W15 ∧ (W15.heap[bo]? = some (.cells #[.int .i8 1, .int .i8 0, .slice (some ⟨R7, 0, none⟩) ((pkB p)).length (pkB p).length, .bool false] 54 (0, 0)) ∧ W15.heap[bt]? = some (.cells #[.int .i8 1, .int .i8 0, .slice (some ⟨R8, 0, none⟩) (pkB p).length (pkB p).length, .bool false] 54 (0, 0))) ∧ W15.heap[bq]? = some (.cells (pkL p tc13 bv13).toArray 39 (0, 0)) ∧ SeesPk W15 tc13 bv13 p) :=
        ⟨H14.out.1.later eb15, ⟨boxL H14.out.2.1.1 eb15, boxL H14.out.2.1.2 eb15⟩, boxL H14.out.2.2.2.1 eb15, H14.out.2.2.2.2.below eb15 (Nat.le_refl _)⟩
      have HA15 : Hid _ := hW15
      clear hW15 eb15 e15 H14 t2 hzt HRD
      go_upto_region 19 with (refine wpList_store_row rfl 39 _ _ rfl w15.heap.size (pkL p tc15 bv15).toArray rfl rfl 39 _ s15 q32b szb u1b ?_)
      rw [← HA15.out]
      clear HA15 s15
      have r1 := H15.out.1.at_
      unfold PkAt at r1
      have r2 := H15.out.2.2.1
      have t3 : W15.cell? ⟨bo, 3, none⟩ = some (.bool false) := by rw [cell_of_row _ _ _ _ _ _ H15.out.2.1.1]; rfl
      have u3 : W15.cell? ⟨bt, 3, none⟩ = some (.bool false) := by rw [cell_of_row _ _ _ _ _ _ H15.out.2.1.2]; rfl
      have hz1 := lt_of_block H15.out.2.1.1
      have hz2 := lt_of_block H15.out.2.1.2
      go_wp2_with (first | (refine load_rowG (by kernel_rfl) 39 _ rfl w.heap.size rfl 39 _ (0, 0) _ r1 Tryz.underlying39 rfl q32 ?_) | (refine load_rowG (by kernel_rfl) 39 _ rfl bq rfl 39 _ (0, 0) _ r2 Tryz.underlying39 rfl q32a ?_))
      clear r1 r2 t3 u3 hz1 hz2
      refine (eqPk_same p tc tc13 bv bv13 _ H15.out.1.pk H15.out.2.2.2).mono ?_
      rintro _ w16 ⟨rfl, e16⟩
      have H16 : Hid (Below w.heap.size w w16) := H15.out.1.bel.trans (e16.mono H15.out.1.bel.size)
      clear e16 H15
      go_wp2_with fail
      go_ret
      exact ⟨rfl, H16.out⟩
  · have d1 : decide (0 ≤ at_) = false := decide_eq_false c1
    have HE : Hid (spE ⟨1, 0, pkB p, false, R7, 0, (pkB p).length⟩ at_ xor_ = 1) := by show _ = _; unfold spE; rw [if_pos (.inl (by omega))]
    have HSP : Hid (Calls Tryz.prog 12 #[.pointer (some ⟨w5.heap.size, 0, none⟩), .int .i64 0, .int .i64 at_, .int .u8 xor_] w8 fun e w' => e = .returned (.int .i64 1) ∧ Below w8.heap.size w8 w') := by
      have := spoil_no (p := 0) H8.out.1 rfl at_ xor_ (by rw [HE.out]; decide)
      rw [HE.out] at this
      exact this
    go_wp2_with fail
    refine Calls.mono HSP.out ?_
    rintro _ w9 ⟨rfl, e9⟩
    have H9 : Hid (Nt w9 w5.heap.size 2 v8 [⟨1, 0, pkB p, false, R7, 0, (pkB p).length⟩, ⟨1, 0, pkB p, false, R8, 0, (pkB p).length⟩] ∧ Below w5.heap.size w5 w9 ∧ (∀ k, v8.ownBlock = some k → w5.heap.size ≤ k)) := ⟨H8.out.1.below e9, H8.out.2.1.trans (e9.mono H8.out.2.1.size), H8.out.2.2.1⟩
    clear e9 H8 HE HSP c1 d1
    try clear c2 d2
    try clear c3 d3 d3'
    have HT1 : Hid (Calls Tryz.prog 13 #[.pointer (some ⟨w5.heap.size, 0, none⟩), .int .i64 0] w9 fun e w' => e = .returned (.tuple #[.agg #[.int .i8 1, .int .i8 0, .slice (some ⟨R7, 0, none⟩) ((pkB p)).length (pkB p).length, .bool false], .int .i64 0]) ∧ ∃ v', Nt w' w5.heap.size 2 v' [⟨1, 0, pkB p, false, R8, 0, (pkB p).length⟩] ∧ Below w5.heap.size w5 w' ∧ (∀ k, v'.ownBlock = some k → w5.heap.size ≤ k) ∧ MsOk w' ⟨1, 0, (pkB p), false, R7, 0, (pkB p).length⟩) := by
      refine Calls.mono (take_yes (A := []) (B := [⟨1, 0, pkB p, false, R8, 0, (pkB p).length⟩]) (x := ⟨1, 0, (pkB p), false, R7, 0, (pkB p).length⟩) H9.out.1 (Nat.le_of_ble_eq_true rfl)) ?_
      rintro _ w' ⟨rfl, v', g1, g2, g3, g4⟩
      exact ⟨rfl, v', g1, H9.out.2.1.trans (Kept.below g2 (B := w5.heap.size) H9.out.2.1.size (fun k e => e.elim (fun e => by omega) (H9.out.2.2 k))), fun k e => H9.out.2.2 k (by rw [← g3]; exact e), g4⟩
    clear H9
    go_wp2_with fail
    refine Calls.mono HT1.out ?_
    rintro _ w10 ⟨rfl, v10, h10, b10, hv10, hm10⟩
    obtain ⟨w11, hw11⟩ : ∃ w11, w11 = w10.alloc (.cells #[.int .i8 1, .int .i8 0, .slice (some ⟨R7, 0, none⟩) ((pkB p)).length (pkB p).length, .bool false] 54) := ⟨_, rfl⟩
    have H11 : Hid ((Nt w11 w5.heap.size 2 v10 [⟨1, 0, pkB p, false, R8, 0, (pkB p).length⟩] ∧ Below w5.heap.size w5 w11 ∧ (∀ k, v10.ownBlock = some k → w5.heap.size ≤ k)) ∧ MsOk w11 ⟨1, 0, (pkB p), false, R7, 0, (pkB p).length⟩ ∧ w11.heap[w10.heap.size]? = some (.cells #[.int .i8 1, .int .i8 0, .slice (some ⟨R7, 0, none⟩) ((pkB p)).length (pkB p).length, .bool false] 54 (0, 0)) ∧ (∀ k, k = w5.heap.size ∨ v10.ownBlock = some k → k ≠ w10.heap.size)) := by
      have o := oneL w10 (.cells #[.int .i8 1, .int .i8 0, .slice (some ⟨R7, 0, none⟩) ((pkB p)).length (pkB p).length, .bool false] 54)
      have hnw := heap_alloc_new w10 (.cells #[.int .i8 1, .int .i8 0, .slice (some ⟨R7, 0, none⟩) ((pkB p)).length (pkB p).length, .bool false] 54)
      rw [← hw11] at o hnw
      refine ⟨⟨h10.below o, b10.trans (o.mono b10.size), hv10⟩, hm10.kept (Below.kept o) (by have := hm10.lt; omega), hnw, fun k e => ?_⟩
      have : k < w10.heap.size := h10.lt (e.elim .inl (fun e => .inr (.inl e)))
      omega
    clear HT1 h10 b10 hv10 hm10
    go_upto_region 16 with fail
    rw [← hw11]
    clear hw11
    generalize w10.heap.size = bo at *
    have HT2 : Hid (Calls Tryz.prog 13 #[.pointer (some ⟨w5.heap.size, 0, none⟩), .int .i64 0] w11 fun e w' => e = .returned (.tuple #[.agg #[.int .i8 1, .int .i8 0, .slice (some ⟨R8, 0, none⟩) (pkB p).length (pkB p).length, .bool false], .int .i64 0]) ∧ Below w5.heap.size w5 w' ∧ MsOk w' ⟨1, 0, (pkB p), false, R7, 0, (pkB p).length⟩ ∧ w'.heap[bo]? = some (.cells #[.int .i8 1, .int .i8 0, .slice (some ⟨R7, 0, none⟩) ((pkB p)).length (pkB p).length, .bool false] 54 (0, 0)) ∧ MsOk w' ⟨1, 0, pkB p, false, R8, 0, (pkB p).length⟩) := by
      refine Calls.mono (take_yes (A := []) (B := []) (x := ⟨1, 0, pkB p, false, R8, 0, (pkB p).length⟩) H11.out.1.1 (Nat.le_of_ble_eq_true rfl)) ?_
      rintro _ w' ⟨rfl, v', g1, g2, g3, g4⟩
      exact ⟨rfl, H11.out.1.2.1.trans (Kept.below g2 (B := w5.heap.size) H11.out.1.2.1.size (fun k e => e.elim (fun e => by omega) (H11.out.1.2.2 k))), H11.out.2.1.kept g2 (H11.out.2.1.apart H11.out.1.1), g2.heap H11.out.2.2.1 (fun e => H11.out.2.2.2 bo e rfl), g4⟩
    clear H11
    go_wp2_with fail
    refine Calls.mono HT2.out ?_
    rintro _ w12 ⟨rfl, b12, ho12, hb12, ht12⟩
    obtain ⟨w13, hw13⟩ : ∃ w13, w13 = w12.alloc (.cells #[.int .i8 1, .int .i8 0, .slice (some ⟨R8, 0, none⟩) (pkB p).length (pkB p).length, .bool false] 54) := ⟨_, rfl⟩
    have H13 : Hid (PkH w p tc bv w13 ∧ (w13.heap[bo]? = some (.cells #[.int .i8 1, .int .i8 0, .slice (some ⟨R7, 0, none⟩) ((pkB p)).length (pkB p).length, .bool false] 54 (0, 0)) ∧ w13.heap[w12.heap.size]? = some (.cells #[.int .i8 1, .int .i8 0, .slice (some ⟨R8, 0, none⟩) (pkB p).length (pkB p).length, .bool false] 54 (0, 0))) ∧ Sees w13 (.slice (some ⟨R7, 0, none⟩) ((pkB p)).length (pkB p).length) ((pkB p)) ∧ Sees w13 (.slice (some ⟨R8, 0, none⟩) (pkB p).length (pkB p).length) (pkB p)) := by
      have o := oneL w12 (.cells #[.int .i8 1, .int .i8 0, .slice (some ⟨R8, 0, none⟩) (pkB p).length (pkB p).length, .bool false] 54)
      have hnw := heap_alloc_new w12 (.cells #[.int .i8 1, .int .i8 0, .slice (some ⟨R8, 0, none⟩) (pkB p).length (pkB p).length, .bool false] 54)
      rw [← hw13] at o hnw
      exact ⟨H5.out.1.later (b12.trans (o.mono b12.size)), ⟨boxL hb12 o, hnw⟩, ho12.sees.below o (Nat.le_refl _), ht12.sees.below o (Nat.le_refl _)⟩
    clear HT2 b12 ho12 hb12 ht12
    go_upto_region 17 with fail
    rw [← hw13]
    clear hw13
    generalize w12.heap.size = bt at *
    have t2 : w13.cell? ⟨bt, 2, none⟩ = some (.slice (some ⟨R8, 0, none⟩) (pkB p).length (pkB p).length) := by rw [cell_of_row _ _ _ _ _ _ H13.out.2.1.2]; rfl
    have hzt := lt_of_block H13.out.2.1.2
    go_wp2_with fail
    refine Calls.mono (readP_good p tz HZ.out HG.out.1 HG.out.2.2 HC.out _ w13 H13.out.2.2.2 H13.out.1.nam H13.out.1.pnam) ?_
    rintro _ w13b ⟨tc13, bv13, rfl, hpk13, e13⟩
    have s13 : (w13b.alloc (.cells (zPk 0) 39)).heap[w13b.heap.size]? = some (.cells (zPk 0) 39 (0, 0)) := heap_alloc_new _ _
    have q32a := pkSz p tc13 bv13 hpk13.sees.tx.len
    have u1a : (pkL p tc13 bv13).toArray.all (·.oneCell') = true := pk_oneS hpk13.sees
    have sza : (zPk 0).size = (pkL p tc13 bv13).toArray.size := by simp [pkL, hpk13.sees.tx.len]
    obtain ⟨w14, hw14⟩ : ∃ W5, W5 = (w13b.alloc (.cells (zPk 0) 39)).setRow w13b.heap.size (pkL p tc13 bv13).toArray := ⟨_, rfl⟩
    have H14 : Hid (PkH w p tc bv w14 ∧ (w14.heap[bo]? = some (.cells #[.int .i8 1, .int .i8 0, .slice (some ⟨R7, 0, none⟩) ((pkB p)).length (pkB p).length, .bool false] 54 (0, 0)) ∧ w14.heap[bt]? = some (.cells #[.int .i8 1, .int .i8 0, .slice (some ⟨R8, 0, none⟩) (pkB p).length (pkB p).length, .bool false] 54 (0, 0))) ∧ Sees w14 (.slice (some ⟨R7, 0, none⟩) ((pkB p)).length (pkB p).length) ((pkB p)) ∧ w14.heap[w13b.heap.size]? = some (.cells (pkL p tc13 bv13).toArray 39 (0, 0)) ∧ SeesPk w14 tc13 bv13 p) := by
      have a := row_new w13b (zPk 0) (pkL p tc13 bv13).toArray 39
      rw [← hw14] at a
      have eb : Below w13.heap.size w13 w14 := e13.trans (a.1.mono e13.size)
      exact ⟨H13.out.1.later eb, ⟨boxL H13.out.2.1.1 eb, boxL H13.out.2.1.2 eb⟩, H13.out.2.2.1.below eb (Nat.le_refl _), a.2, hpk13.sees.below a.1 (Nat.le_refl _)⟩
    have HA14 : Hid _ := hw14
    clear hw14 hpk13 e13 H13 t2 hzt
    go_upto_region 18 with (refine wpList_store_row rfl 39 _ _ rfl w13b.heap.size (pkL p tc13 bv13).toArray rfl rfl 39 _ s13 q32a sza u1a ?_)
    rw [← HA14.out]
    clear HA14 s13
    generalize w13b.heap.size = bq at *
    have t2 : w14.cell? ⟨bo, 2, none⟩ = some (.slice (some ⟨R7, 0, none⟩) ((pkB p)).length (pkB p).length) := by rw [cell_of_row _ _ _ _ _ _ H14.out.2.1.1]; rfl
    have hzt := lt_of_block H14.out.2.1.1
    have HRD : Hid _ := readP_good p tz HZ.out HG.out.1 HG.out.2.2 HC.out _ w14 H14.out.2.2.1 H14.out.1.nam H14.out.1.pnam
    go_wp2_with fail
    refine Calls.mono HRD.out ?_
    rintro _ w15 ⟨tc15, bv15, rfl, hpk15, e15⟩
    have s15 : (w15.alloc (.cells (zPk 0) 39)).heap[w15.heap.size]? = some (.cells (zPk 0) 39 (0, 0)) := heap_alloc_new _ _
    have q32b := pkSz p tc15 bv15 hpk15.sees.tx.len
    have u1b : (pkL p tc15 bv15).toArray.all (·.oneCell') = true := pk_oneS hpk15.sees
    have szb : (zPk 0).size = (pkL p tc15 bv15).toArray.size := by simp [pkL, hpk15.sees.tx.len]
    obtain ⟨W15, hW15⟩ : ∃ W5, W5 = (w15.alloc (.cells (zPk 0) 39)).setRow w15.heap.size (pkL p tc15 bv15).toArray := ⟨_, rfl⟩
    have eb15 : Below w14.heap.size w14 W15 := by
      have a := row_new w15 (zPk 0) (pkL p tc15 bv15).toArray 39
      rw [← hW15] at a
      exact e15.trans (a.1.mono e15.size)
    have H15 : Hid (PkH w p tc bv W15 ∧ (W15.heap[bo]? = some (.cells #[.int .i8 1, .int .i8 0, .slice (some ⟨R7, 0, none⟩) ((pkB p)).length (pkB p).length, .bool false] 54 (0, 0)) ∧ W15.heap[bt]? = some (.cells #[.int .i8 1, .int .i8 0, .slice (some ⟨R8, 0, none⟩) (pkB p).length (pkB p).length, .bool false] 54 (0, 0))) ∧ W15.heap[bq]? = some (.cells (pkL p tc13 bv13).toArray 39 (0, 0)) ∧ SeesPk W15 tc13 bv13 p) :=
      ⟨H14.out.1.later eb15, ⟨boxL H14.out.2.1.1 eb15, boxL H14.out.2.1.2 eb15⟩, boxL H14.out.2.2.2.1 eb15, H14.out.2.2.2.2.below eb15 (Nat.le_refl _)⟩
    have HA15 : Hid _ := hW15
    clear hW15 eb15 e15 H14 t2 hzt HRD
    go_upto_region 19 with (refine wpList_store_row rfl 39 _ _ rfl w15.heap.size (pkL p tc15 bv15).toArray rfl rfl 39 _ s15 q32b szb u1b ?_)
    rw [← HA15.out]
    clear HA15 s15
    have r1 := H15.out.1.at_
    unfold PkAt at r1
    have r2 := H15.out.2.2.1
    have t3 : W15.cell? ⟨bo, 3, none⟩ = some (.bool false) := by rw [cell_of_row _ _ _ _ _ _ H15.out.2.1.1]; rfl
    have u3 : W15.cell? ⟨bt, 3, none⟩ = some (.bool false) := by rw [cell_of_row _ _ _ _ _ _ H15.out.2.1.2]; rfl
    have hz1 := lt_of_block H15.out.2.1.1
    have hz2 := lt_of_block H15.out.2.1.2
    go_wp2_with (first | (refine load_rowG (by kernel_rfl) 39 _ rfl w.heap.size rfl 39 _ (0, 0) _ r1 Tryz.underlying39 rfl q32 ?_) | (refine load_rowG (by kernel_rfl) 39 _ rfl bq rfl 39 _ (0, 0) _ r2 Tryz.underlying39 rfl q32a ?_))
    clear r1 r2 t3 u3 hz1 hz2
    refine (eqPk_same p tc tc13 bv bv13 _ H15.out.1.pk H15.out.2.2.2).mono ?_
    rintro _ w16 ⟨rfl, e16⟩
    have H16 : Hid (Below w.heap.size w w16) := H15.out.1.bel.trans (e16.mono H15.out.1.bel.size)
    clear e16 H15
    go_wp2_with fail
    go_ret
    exact ⟨rfl, H16.out⟩
end Go.Proofs.YtldcbabgommghaaGreatDoor
