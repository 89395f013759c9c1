/- What put of package txn lays of a transaction's request without Ops, kind by kind. -/
import Derived.Test.YtldcbabgommghaaGreatDoorPutKJ
namespace Go.Proofs.YtldcbabgommghaaGreatDoor
open Go.RowKit
set_option maxRecDepth 8000

set_option maxHeartbeats 4000000 in
theorem put_ou1 (f : RqF) (dv av wv ov : Value) (hov : ∃ a n c, ov = .slice a n c) (B g : Nat) (v : Value) (xs : List Int) (w : World) (hk : f.kind = 1) (hl : Lies4 w B f dv av wv) (h : IsW w g v xs) (hx : xs.length ≤ 1000000000000) (hn : Nam w) (hB : 1 < B) (hg : B ≤ g) (hv : ∀ j, v.ownBlock = some j → B ≤ j) :
    Calls Tryz.prog 139 #[lay 8 0, .pointer (some ⟨g, 0, none⟩), .agg (rqCells f dv av wv ov).toArray] w fun e w' => e = .returned (.tuple #[]) ∧ Puts w g v (xs ++ encP true true true false true true false true f []) w' := by
  have m0 : bits .and .u16 375 1 = 1 := by decide
  have m1 : bits .and .u16 375 2 = 2 := by decide
  have m2 : bits .and .u16 375 4 = 4 := by decide
  have m3 : bits .and .u16 375 8 = 0 := by decide
  have m4 : bits .and .u16 375 16 = 16 := by decide
  have m5 : bits .and .u16 375 32 = 32 := by decide
  have m6 : bits .and .u16 375 64 = 64 := by decide
  have m7 : bits .and .u16 375 128 = 0 := by decide
  have m8 : bits .and .u16 375 256 = 256 := by decide
  have m9 : bits .and .u16 375 512 = 0 := by decide
  have hnm : nms 8 0 1 = 375 := by decide
  have HBD : Hid _ := bdOk_inv hl.bd
  have HLL : Hid (Lies4 w B f dv av wv) := hl
  have HLT : Hid (g < w.heap.size ∧ ∀ k, v.ownBlock = some k → k < w.heap.size) := h.lt
  obtain ⟨oa, on, occ, rfl⟩ := hov
  obtain ⟨kind, path, data, acl, ver, eph, seq, ses, tmo, who⟩ := f
  simp only at hk
  subst hk
  obtain ⟨da, dc, rfl, _⟩ := id hl.hd
  obtain ⟨aa, ac, ea, _⟩ := id hl.ha
  obtain ⟨wa, wc, ew, _⟩ := id hl.hw
  rw [List.length_map] at ea ew
  simp only at ea ew
  subst ea ew
  simp only [rqCells]
  obtain ⟨V, eV⟩ : ∃ V, V = ((w.alloc (.cells #[.int .i8 8, .int .u16 0] 153)).alloc (.cells #[.int .i8 1, .string path, .slice da data.length dc, .slice aa acl.length ac, .int .i32 ver, .bool eph, .bool seq, .int .i64 ses, .int .i32 tmo, .slice wa who.length wc, .slice oa on occ] 35)) := ⟨_, rfl⟩
  have HV : Hid (IsW V g v xs ∧ Nam V ∧ (∀ zs W, Puts V g v zs W → Puts w g v zs W)) := by
    subst eV
    exact ⟨(h.alloc _).alloc _, hn.below (two_alloc w _ _) hn.lt, fun zs W hp => hp.of_alloc.of_alloc⟩
  have HC : Hid (∀ zs W, Puts V g v zs W → Nam W ∧ (∃ v1, IsW W g v1 zs ∧ NewRow V v v1 ∧ Kept V W (fun k => k = g ∨ v.ownBlock = some k) ∧ (∀ j, v1.ownBlock = some j → B ≤ j)) ∧ Lies4 W B ⟨1, path, data, acl, ver, eph, seq, ses, tmo, who⟩ (.slice da data.length dc) (.slice aa acl.length ac) (.slice wa who.length wc) ∧ B ≤ W.heap.size ∧ W.cell? ⟨w.heap.size, 0, none⟩ = some (.int .i8 8) ∧ W.cell? ⟨w.heap.size, 1, none⟩ = some (.int .u16 0) ∧ W.cell? ⟨w.heap.size + 1, 0, none⟩ = some (.int .i8 1) ∧ W.cell? ⟨w.heap.size + 1, 1, none⟩ = some (.string path) ∧ W.cell? ⟨w.heap.size + 1, 2, none⟩ = some (.slice da data.length dc) ∧ W.cell? ⟨w.heap.size + 1, 3, none⟩ = some (.slice aa acl.length ac) ∧ W.cell? ⟨w.heap.size + 1, 4, none⟩ = some (.int .i32 ver) ∧ W.cell? ⟨w.heap.size + 1, 5, none⟩ = some (.bool eph) ∧ W.cell? ⟨w.heap.size + 1, 6, none⟩ = some (.bool seq) ∧ W.cell? ⟨w.heap.size + 1, 7, none⟩ = some (.int .i64 ses) ∧ W.cell? ⟨w.heap.size + 1, 8, none⟩ = some (.int .i32 tmo) ∧ W.cell? ⟨w.heap.size + 1, 9, none⟩ = some (.slice wa who.length wc) ∧ W.cell? ⟨w.heap.size + 1, 10, none⟩ = some (.slice oa on occ)) := by
    intro zs W hp
    have hlt := HLT.out
    have hVs : w.heap.size ≤ V.heap.size := by subst eV; simp; omega
    have hkV : Kept w V (fun _ => False) := by subst eV; exact ((Kept.refl w (fun _ => False)).alloc _).alloc _
    obtain ⟨v1, p1, p2, p3⟩ := id hp
    refine ⟨hp.nam HV.out.2.1 (by omega) (fun j hj => by have := hv j hj; omega), ⟨v1, p1, p2, p3, fun j hj => ?_⟩, ((HLL.out.kept hkV (fun k e => e.elim)).kept p3 (fun k e => ?_)), by have := p3.size; omega, ?_, ?_, ?_, ?_, ?_, ?_, ?_, ?_, ?_, ?_, ?_, ?_, ?_⟩
    · rcases p2 with e | ⟨q, e, hq⟩
      · exact hv j (by rw [← e]; exact hj)
      · rw [hj] at e; simp at e; omega
    · rcases e with e | e
      · omega
      · exact hv k e
    iterate 2 (refine hp.cell (p := ⟨w.heap.size, _, none⟩) ?_ (by show w.heap.size ≠ g; omega) (fun e => by have h1 := hlt.2 _ e; have : w.heap.size < w.heap.size := h1; omega); subst eV; rw [World.cell?_alloc_lt _ _ _ (by simp), cell_of_row _ _ _ _ _ _ (heap_alloc_new _ _)]; rfl)
    all_goals (refine hp.cell (p := ⟨w.heap.size + 1, _, none⟩) ?_ (by show w.heap.size + 1 ≠ g; omega) (fun e => by have h1 := hlt.2 _ e; have : w.heap.size + 1 < w.heap.size := h1; omega); subst eV; rw [cell_of_row _ _ _ _ _ _ (by have := heap_alloc_new (w.alloc (.cells #[.int .i8 8, .int .u16 0] 153)) (.cells #[.int .i8 1, .string path, .slice da data.length dc, .slice aa acl.length ac, .int .i32 ver, .bool eph, .bool seq, .int .i64 ses, .int .i32 tmo, .slice wa who.length wc, .slice oa on occ] 35 (0, 0)); simpa using this)]; rfl)
  have HE : Hid _ := eV
  have HBG : Hid (1 < B ∧ B ≤ g) := ⟨hB, hg⟩
  clear h hn hB hv eV hl
  go_enter Tryz.func139, Tryz.ntmps139
  go_wp2_with fail
  rw [← HE.out]
  refine (wInt8_any g v xs 1 _ HV.out.1 (by omega)).mono ?_
  rintro e w1 ⟨rfl, hp⟩
  have HP1 : Hid (Puts V g v (xs ++ [1 % 256]) w1) := hp
  clear hp HE
  obtain ⟨nm, _, _, _, l0, l1, r0, r1, r2, r3, r4, r5, r6, r7, r8, r9, r10⟩ := HC.out _ _ HP1.out
  go_wp2_with fail
  refine (names_any 8 0 1 _ nm (by omega)).mono ?_
  rintro e w2 ⟨rfl, b2⟩
  rw [hnm]
  have HP2 : Hid (Puts V g v (xs ++ [1 % 256]) w2) := HP1.out.later b2
  clear b2 HP1 nm l0 l1 r0 r1 r2 r3 r4 r5 r6 r7 r8 r9 r10
  obtain ⟨_, ⟨v2, iw2, nr2, kp2, vb2⟩, li2, bs2, l0, l1, r0, r1, r2, r3, r4, r5, r6, r7, r8, r9, r10⟩ := HC.out _ _ HP2.out
  have HW2 : Hid _ := And.intro iw2 (And.intro nr2 (And.intro kp2 (And.intro vb2 (And.intro li2 bs2))))
  clear iw2 nr2 kp2 vb2 li2 bs2
  go_wp2_with fail
  refine (wText_any g v2 _ path _ HW2.out.1 (by have := HBD.out.1; omega) (by have := HBD.out; have hac := acB_len acl (fun y hy => by have := HBD.out.2.2.2.1 y hy; omega); (repeat (first | rw [List.length_append] | rw [be4_length] | rw [be8_length] | rw [txt_len] | rw [List.length_singleton])); omega)).mono ?_
  rintro e w3 ⟨rfl, hp⟩
  have HP3 : Hid (Puts V g v _ w3) := Puts.next HW2.out.2.1 HW2.out.2.2.1 hp
  clear hp HW2 l0 l1 r0 r1 r2 r3 r4 r5 r6 r7 r8 r9 r10
  obtain ⟨_, ⟨v3, iw2, nr2, kp2, vb2⟩, li2, bs2, l0, l1, r0, r1, r2, r3, r4, r5, r6, r7, r8, r9, r10⟩ := HC.out _ _ HP3.out
  have HW3 : Hid _ := And.intro iw2 (And.intro nr2 (And.intro kp2 (And.intro vb2 (And.intro li2 bs2))))
  clear iw2 nr2 kp2 vb2 li2 bs2
  go_wp2_with fail
  refine (wBuffer_any g v3 (.slice da data.length dc) _ data _ HW3.out.1 HW3.out.2.2.2.2.1.hd (fun q hq => ⟨by have := HLL.out.fd q hq; omega, fun e => by have := HLL.out.fd q hq; have := HW3.out.2.2.2.1 q e; omega⟩) (by have := HBD.out; omega) (by have := HBD.out; have hac := acB_len acl (fun y hy => by have := HBD.out.2.2.2.1 y hy; omega); (repeat (first | rw [List.length_append] | rw [be4_length] | rw [be8_length] | rw [txt_len] | rw [List.length_singleton])); omega)).mono ?_
  rintro e w4 ⟨rfl, hp⟩
  have HP4 : Hid (Puts V g v _ w4) := Puts.next HW3.out.2.1 HW3.out.2.2.1 hp
  clear hp HW3 l0 l1 r0 r1 r2 r3 r4 r5 r6 r7 r8 r9 r10
  obtain ⟨_, ⟨v4, iw2, nr2, kp2, vb2⟩, li2, bs2, l0, l1, r0, r1, r2, r3, r4, r5, r6, r7, r8, r9, r10⟩ := HC.out _ _ HP4.out
  have HW4 : Hid _ := And.intro iw2 (And.intro nr2 (And.intro kp2 (And.intro vb2 (And.intro li2 bs2))))
  clear iw2 nr2 kp2 vb2 li2 bs2
  go_wp2_with fail
  refine (putListE_any 8 0 g v4 (.slice aa acl.length ac) _ acl _ HW4.out.1 HW4.out.2.2.2.2.1.ha (by have := HBD.out; omega) (fun y hy => by have := HBD.out.2.2.2.1 y hy; omega) (by have := HBD.out; have hac := acB_len acl (fun y hy => by have := HBD.out.2.2.2.1 y hy; omega); (repeat (first | rw [List.length_append] | rw [be4_length] | rw [be8_length] | rw [txt_len] | rw [List.length_singleton])); omega) (fun q hq => ⟨by have := HLL.out.fa q hq; omega, fun e => by have := HLL.out.fa q hq; have := HW4.out.2.2.2.1 q e; omega, by have := HLL.out.fa q hq; have := HW4.out.2.2.2.2.2; omega⟩)).mono ?_
  rintro e w5 ⟨rfl, hp⟩
  have HP5 : Hid (Puts V g v _ w5) := Puts.next HW4.out.2.1 HW4.out.2.2.1 hp
  clear hp HW4 l0 l1 r0 r1 r2 r3 r4 r5 r6 r7 r8 r9 r10
  obtain ⟨_, ⟨v5, iw2, nr2, kp2, vb2⟩, li2, bs2, l0, l1, r0, r1, r2, r3, r4, r5, r6, r7, r8, r9, r10⟩ := HC.out _ _ HP5.out
  have HW5 : Hid _ := And.intro iw2 (And.intro nr2 (And.intro kp2 (And.intro vb2 (And.intro li2 bs2))))
  clear iw2 nr2 kp2 vb2 li2 bs2
  go_wp2_with fail
  refine (wBool_any g v5 _ eph _ HW5.out.1 (by have := HBD.out; have hac := acB_len acl (fun y hy => by have := HBD.out.2.2.2.1 y hy; omega); (repeat (first | rw [List.length_append] | rw [be4_length] | rw [be8_length] | rw [txt_len] | rw [List.length_singleton])); omega)).mono ?_
  rintro e w6 ⟨rfl, hp⟩
  have HP6 : Hid (Puts V g v _ w6) := Puts.next HW5.out.2.1 HW5.out.2.2.1 hp
  clear hp HW5 l0 l1 r0 r1 r2 r3 r4 r5 r6 r7 r8 r9 r10
  obtain ⟨_, ⟨v6, iw2, nr2, kp2, vb2⟩, li2, bs2, l0, l1, r0, r1, r2, r3, r4, r5, r6, r7, r8, r9, r10⟩ := HC.out _ _ HP6.out
  have HW6 : Hid _ := And.intro iw2 (And.intro nr2 (And.intro kp2 (And.intro vb2 (And.intro li2 bs2))))
  clear iw2 nr2 kp2 vb2 li2 bs2
  go_wp2_with fail
  refine (wBool_any g v6 _ seq _ HW6.out.1 (by have := HBD.out; have hac := acB_len acl (fun y hy => by have := HBD.out.2.2.2.1 y hy; omega); (repeat (first | rw [List.length_append] | rw [be4_length] | rw [be8_length] | rw [txt_len] | rw [List.length_singleton])); omega)).mono ?_
  rintro e w7 ⟨rfl, hp⟩
  have HP7 : Hid (Puts V g v _ w7) := Puts.next HW6.out.2.1 HW6.out.2.2.1 hp
  clear hp HW6 l0 l1 r0 r1 r2 r3 r4 r5 r6 r7 r8 r9 r10
  obtain ⟨_, ⟨v7, iw2, nr2, kp2, vb2⟩, li2, bs2, l0, l1, r0, r1, r2, r3, r4, r5, r6, r7, r8, r9, r10⟩ := HC.out _ _ HP7.out
  have HW7 : Hid _ := And.intro iw2 (And.intro nr2 (And.intro kp2 (And.intro vb2 (And.intro li2 bs2))))
  clear iw2 nr2 kp2 vb2 li2 bs2
  go_wp2_with fail
  refine (wInt64_any g v7 _ ses _ HW7.out.1 (by have := HBD.out; have hac := acB_len acl (fun y hy => by have := HBD.out.2.2.2.1 y hy; omega); (repeat (first | rw [List.length_append] | rw [be4_length] | rw [be8_length] | rw [txt_len] | rw [List.length_singleton])); omega)).mono ?_
  rintro e w8 ⟨rfl, hp⟩
  have HP8 : Hid (Puts V g v _ w8) := Puts.next HW7.out.2.1 HW7.out.2.2.1 hp
  clear hp HW7 l0 l1 r0 r1 r2 r3 r4 r5 r6 r7 r8 r9 r10
  obtain ⟨_, ⟨v8, iw2, nr2, kp2, vb2⟩, li2, bs2, l0, l1, r0, r1, r2, r3, r4, r5, r6, r7, r8, r9, r10⟩ := HC.out _ _ HP8.out
  have HW8 : Hid _ := And.intro iw2 (And.intro nr2 (And.intro kp2 (And.intro vb2 (And.intro li2 bs2))))
  clear iw2 nr2 kp2 vb2 li2 bs2
  go_wp2_with fail
  refine (putListI_any 8 0 g v8 (.slice wa who.length wc) _ who _ HW8.out.1 HW8.out.2.2.2.2.1.hw (by have := HBD.out; omega) (fun y hy => by have := HBD.out.2.2.2.2.2.2.2.2 y hy; omega) (by have := HBD.out; have hac := acB_len acl (fun y hy => by have := HBD.out.2.2.2.1 y hy; omega); (repeat (first | rw [List.length_append] | rw [be4_length] | rw [be8_length] | rw [txt_len] | rw [List.length_singleton])); omega) (fun q hq => ⟨by have := HLL.out.fw q hq; omega, fun e => by have := HLL.out.fw q hq; have := HW8.out.2.2.2.1 q e; omega, by have := HLL.out.fw q hq; have := HW8.out.2.2.2.2.2; omega⟩)).mono ?_
  rintro e w9 ⟨rfl, hp⟩
  have HP9 : Hid (Puts V g v _ w9) := Puts.next HW8.out.2.1 HW8.out.2.2.1 hp
  clear hp HW8 l0 l1 r0 r1 r2 r3 r4 r5 r6 r7 r8 r9 r10
  obtain ⟨_, ⟨v9, iw2, nr2, kp2, vb2⟩, li2, bs2, l0, l1, r0, r1, r2, r3, r4, r5, r6, r7, r8, r9, r10⟩ := HC.out _ _ HP9.out
  have HW9 : Hid _ := And.intro iw2 (And.intro nr2 (And.intro kp2 (And.intro vb2 (And.intro li2 bs2))))
  clear iw2 nr2 kp2 vb2 li2 bs2
  go_wp2_with fail
  go_end0
  refine ⟨rfl, HV.out.2.2 _ _ ?_⟩
  have hq := HP9.out
  simpa [encP, txtB] using hq

set_option maxHeartbeats 4000000 in
theorem put_ou2 (f : RqF) (dv av wv ov : Value) (hov : ∃ a n c, ov = .slice a n c) (B g : Nat) (v : Value) (xs : List Int) (w : World) (hk : f.kind = 2) (hl : Lies4 w B f dv av wv) (h : IsW w g v xs) (hx : xs.length ≤ 1000000000000) (hn : Nam w) (hB : 1 < B) (hg : B ≤ g) (hv : ∀ j, v.ownBlock = some j → B ≤ j) :
    Calls Tryz.prog 139 #[lay 8 0, .pointer (some ⟨g, 0, none⟩), .agg (rqCells f dv av wv ov).toArray] w fun e w' => e = .returned (.tuple #[]) ∧ Puts w g v (xs ++ encP true false false true false true false true f []) w' := by
  have m0 : bits .and .u16 329 1 = 1 := by decide
  have m1 : bits .and .u16 329 2 = 0 := by decide
  have m2 : bits .and .u16 329 4 = 0 := by decide
  have m3 : bits .and .u16 329 8 = 8 := by decide
  have m4 : bits .and .u16 329 16 = 0 := by decide
  have m5 : bits .and .u16 329 32 = 0 := by decide
  have m6 : bits .and .u16 329 64 = 64 := by decide
  have m7 : bits .and .u16 329 128 = 0 := by decide
  have m8 : bits .and .u16 329 256 = 256 := by decide
  have m9 : bits .and .u16 329 512 = 0 := by decide
  have hnm : nms 8 0 2 = 329 := by decide
  have HBD : Hid _ := bdOk_inv hl.bd
  have HLL : Hid (Lies4 w B f dv av wv) := hl
  have HLT : Hid (g < w.heap.size ∧ ∀ k, v.ownBlock = some k → k < w.heap.size) := h.lt
  obtain ⟨oa, on, occ, rfl⟩ := hov
  obtain ⟨kind, path, data, acl, ver, eph, seq, ses, tmo, who⟩ := f
  simp only at hk
  subst hk
  obtain ⟨da, dc, rfl, _⟩ := id hl.hd
  obtain ⟨aa, ac, ea, _⟩ := id hl.ha
  obtain ⟨wa, wc, ew, _⟩ := id hl.hw
  rw [List.length_map] at ea ew
  simp only at ea ew
  subst ea ew
  simp only [rqCells]
  obtain ⟨V, eV⟩ : ∃ V, V = ((w.alloc (.cells #[.int .i8 8, .int .u16 0] 153)).alloc (.cells #[.int .i8 2, .string path, .slice da data.length dc, .slice aa acl.length ac, .int .i32 ver, .bool eph, .bool seq, .int .i64 ses, .int .i32 tmo, .slice wa who.length wc, .slice oa on occ] 35)) := ⟨_, rfl⟩
  have HV : Hid (IsW V g v xs ∧ Nam V ∧ (∀ zs W, Puts V g v zs W → Puts w g v zs W)) := by
    subst eV
    exact ⟨(h.alloc _).alloc _, hn.below (two_alloc w _ _) hn.lt, fun zs W hp => hp.of_alloc.of_alloc⟩
  have HC : Hid (∀ zs W, Puts V g v zs W → Nam W ∧ (∃ v1, IsW W g v1 zs ∧ NewRow V v v1 ∧ Kept V W (fun k => k = g ∨ v.ownBlock = some k) ∧ (∀ j, v1.ownBlock = some j → B ≤ j)) ∧ Lies4 W B ⟨2, path, data, acl, ver, eph, seq, ses, tmo, who⟩ (.slice da data.length dc) (.slice aa acl.length ac) (.slice wa who.length wc) ∧ B ≤ W.heap.size ∧ W.cell? ⟨w.heap.size, 0, none⟩ = some (.int .i8 8) ∧ W.cell? ⟨w.heap.size, 1, none⟩ = some (.int .u16 0) ∧ W.cell? ⟨w.heap.size + 1, 0, none⟩ = some (.int .i8 2) ∧ W.cell? ⟨w.heap.size + 1, 1, none⟩ = some (.string path) ∧ W.cell? ⟨w.heap.size + 1, 2, none⟩ = some (.slice da data.length dc) ∧ W.cell? ⟨w.heap.size + 1, 3, none⟩ = some (.slice aa acl.length ac) ∧ W.cell? ⟨w.heap.size + 1, 4, none⟩ = some (.int .i32 ver) ∧ W.cell? ⟨w.heap.size + 1, 5, none⟩ = some (.bool eph) ∧ W.cell? ⟨w.heap.size + 1, 6, none⟩ = some (.bool seq) ∧ W.cell? ⟨w.heap.size + 1, 7, none⟩ = some (.int .i64 ses) ∧ W.cell? ⟨w.heap.size + 1, 8, none⟩ = some (.int .i32 tmo) ∧ W.cell? ⟨w.heap.size + 1, 9, none⟩ = some (.slice wa who.length wc) ∧ W.cell? ⟨w.heap.size + 1, 10, none⟩ = some (.slice oa on occ)) := by
    intro zs W hp
    have hlt := HLT.out
    have hVs : w.heap.size ≤ V.heap.size := by subst eV; simp; omega
    have hkV : Kept w V (fun _ => False) := by subst eV; exact ((Kept.refl w (fun _ => False)).alloc _).alloc _
    obtain ⟨v1, p1, p2, p3⟩ := id hp
    refine ⟨hp.nam HV.out.2.1 (by omega) (fun j hj => by have := hv j hj; omega), ⟨v1, p1, p2, p3, fun j hj => ?_⟩, ((HLL.out.kept hkV (fun k e => e.elim)).kept p3 (fun k e => ?_)), by have := p3.size; omega, ?_, ?_, ?_, ?_, ?_, ?_, ?_, ?_, ?_, ?_, ?_, ?_, ?_⟩
    · rcases p2 with e | ⟨q, e, hq⟩
      · exact hv j (by rw [← e]; exact hj)
      · rw [hj] at e; simp at e; omega
    · rcases e with e | e
      · omega
      · exact hv k e
    iterate 2 (refine hp.cell (p := ⟨w.heap.size, _, none⟩) ?_ (by show w.heap.size ≠ g; omega) (fun e => by have h1 := hlt.2 _ e; have : w.heap.size < w.heap.size := h1; omega); subst eV; rw [World.cell?_alloc_lt _ _ _ (by simp), cell_of_row _ _ _ _ _ _ (heap_alloc_new _ _)]; rfl)
    all_goals (refine hp.cell (p := ⟨w.heap.size + 1, _, none⟩) ?_ (by show w.heap.size + 1 ≠ g; omega) (fun e => by have h1 := hlt.2 _ e; have : w.heap.size + 1 < w.heap.size := h1; omega); subst eV; rw [cell_of_row _ _ _ _ _ _ (by have := heap_alloc_new (w.alloc (.cells #[.int .i8 8, .int .u16 0] 153)) (.cells #[.int .i8 2, .string path, .slice da data.length dc, .slice aa acl.length ac, .int .i32 ver, .bool eph, .bool seq, .int .i64 ses, .int .i32 tmo, .slice wa who.length wc, .slice oa on occ] 35 (0, 0)); simpa using this)]; rfl)
  have HE : Hid _ := eV
  have HBG : Hid (1 < B ∧ B ≤ g) := ⟨hB, hg⟩
  clear h hn hB hv eV hl
  go_enter Tryz.func139, Tryz.ntmps139
  go_wp2_with fail
  rw [← HE.out]
  refine (wInt8_any g v xs 2 _ HV.out.1 (by omega)).mono ?_
  rintro e w1 ⟨rfl, hp⟩
  have HP1 : Hid (Puts V g v (xs ++ [2 % 256]) w1) := hp
  clear hp HE
  obtain ⟨nm, _, _, _, l0, l1, r0, r1, r2, r3, r4, r5, r6, r7, r8, r9, r10⟩ := HC.out _ _ HP1.out
  go_wp2_with fail
  refine (names_any 8 0 2 _ nm (by omega)).mono ?_
  rintro e w2 ⟨rfl, b2⟩
  rw [hnm]
  have HP2 : Hid (Puts V g v (xs ++ [2 % 256]) w2) := HP1.out.later b2
  clear b2 HP1 nm l0 l1 r0 r1 r2 r3 r4 r5 r6 r7 r8 r9 r10
  obtain ⟨_, ⟨v2, iw2, nr2, kp2, vb2⟩, li2, bs2, l0, l1, r0, r1, r2, r3, r4, r5, r6, r7, r8, r9, r10⟩ := HC.out _ _ HP2.out
  have HW2 : Hid _ := And.intro iw2 (And.intro nr2 (And.intro kp2 (And.intro vb2 (And.intro li2 bs2))))
  clear iw2 nr2 kp2 vb2 li2 bs2
  go_wp2_with fail
  refine (wText_any g v2 _ path _ HW2.out.1 (by have := HBD.out.1; omega) (by have := HBD.out; have hac := acB_len acl (fun y hy => by have := HBD.out.2.2.2.1 y hy; omega); (repeat (first | rw [List.length_append] | rw [be4_length] | rw [be8_length] | rw [txt_len] | rw [List.length_singleton])); omega)).mono ?_
  rintro e w3 ⟨rfl, hp⟩
  have HP3 : Hid (Puts V g v _ w3) := Puts.next HW2.out.2.1 HW2.out.2.2.1 hp
  clear hp HW2 l0 l1 r0 r1 r2 r3 r4 r5 r6 r7 r8 r9 r10
  obtain ⟨_, ⟨v3, iw2, nr2, kp2, vb2⟩, li2, bs2, l0, l1, r0, r1, r2, r3, r4, r5, r6, r7, r8, r9, r10⟩ := HC.out _ _ HP3.out
  have HW3 : Hid _ := And.intro iw2 (And.intro nr2 (And.intro kp2 (And.intro vb2 (And.intro li2 bs2))))
  clear iw2 nr2 kp2 vb2 li2 bs2
  go_wp2_with fail
  refine (wInt32_any g v3 _ ver _ HW3.out.1 (by have := HBD.out; have hac := acB_len acl (fun y hy => by have := HBD.out.2.2.2.1 y hy; omega); (repeat (first | rw [List.length_append] | rw [be4_length] | rw [be8_length] | rw [txt_len] | rw [List.length_singleton])); omega)).mono ?_
  rintro e w4 ⟨rfl, hp⟩
  have HP4 : Hid (Puts V g v _ w4) := Puts.next HW3.out.2.1 HW3.out.2.2.1 hp
  clear hp HW3 l0 l1 r0 r1 r2 r3 r4 r5 r6 r7 r8 r9 r10
  obtain ⟨_, ⟨v4, iw2, nr2, kp2, vb2⟩, li2, bs2, l0, l1, r0, r1, r2, r3, r4, r5, r6, r7, r8, r9, r10⟩ := HC.out _ _ HP4.out
  have HW4 : Hid _ := And.intro iw2 (And.intro nr2 (And.intro kp2 (And.intro vb2 (And.intro li2 bs2))))
  clear iw2 nr2 kp2 vb2 li2 bs2
  go_wp2_with fail
  refine (wInt64_any g v4 _ ses _ HW4.out.1 (by have := HBD.out; have hac := acB_len acl (fun y hy => by have := HBD.out.2.2.2.1 y hy; omega); (repeat (first | rw [List.length_append] | rw [be4_length] | rw [be8_length] | rw [txt_len] | rw [List.length_singleton])); omega)).mono ?_
  rintro e w5 ⟨rfl, hp⟩
  have HP5 : Hid (Puts V g v _ w5) := Puts.next HW4.out.2.1 HW4.out.2.2.1 hp
  clear hp HW4 l0 l1 r0 r1 r2 r3 r4 r5 r6 r7 r8 r9 r10
  obtain ⟨_, ⟨v5, iw2, nr2, kp2, vb2⟩, li2, bs2, l0, l1, r0, r1, r2, r3, r4, r5, r6, r7, r8, r9, r10⟩ := HC.out _ _ HP5.out
  have HW5 : Hid _ := And.intro iw2 (And.intro nr2 (And.intro kp2 (And.intro vb2 (And.intro li2 bs2))))
  clear iw2 nr2 kp2 vb2 li2 bs2
  go_wp2_with fail
  refine (putListI_any 8 0 g v5 (.slice wa who.length wc) _ who _ HW5.out.1 HW5.out.2.2.2.2.1.hw (by have := HBD.out; omega) (fun y hy => by have := HBD.out.2.2.2.2.2.2.2.2 y hy; omega) (by have := HBD.out; have hac := acB_len acl (fun y hy => by have := HBD.out.2.2.2.1 y hy; omega); (repeat (first | rw [List.length_append] | rw [be4_length] | rw [be8_length] | rw [txt_len] | rw [List.length_singleton])); omega) (fun q hq => ⟨by have := HLL.out.fw q hq; omega, fun e => by have := HLL.out.fw q hq; have := HW5.out.2.2.2.1 q e; omega, by have := HLL.out.fw q hq; have := HW5.out.2.2.2.2.2; omega⟩)).mono ?_
  rintro e w6 ⟨rfl, hp⟩
  have HP6 : Hid (Puts V g v _ w6) := Puts.next HW5.out.2.1 HW5.out.2.2.1 hp
  clear hp HW5 l0 l1 r0 r1 r2 r3 r4 r5 r6 r7 r8 r9 r10
  obtain ⟨_, ⟨v6, iw2, nr2, kp2, vb2⟩, li2, bs2, l0, l1, r0, r1, r2, r3, r4, r5, r6, r7, r8, r9, r10⟩ := HC.out _ _ HP6.out
  have HW6 : Hid _ := And.intro iw2 (And.intro nr2 (And.intro kp2 (And.intro vb2 (And.intro li2 bs2))))
  clear iw2 nr2 kp2 vb2 li2 bs2
  go_wp2_with fail
  go_end0
  refine ⟨rfl, HV.out.2.2 _ _ ?_⟩
  have hq := HP6.out
  simpa [encP, txtB] using hq

set_option maxHeartbeats 4000000 in
theorem put_ou3 (f : RqF) (dv av wv ov : Value) (hov : ∃ a n c, ov = .slice a n c) (B g : Nat) (v : Value) (xs : List Int) (w : World) (hk : f.kind = 3) (hl : Lies4 w B f dv av wv) (h : IsW w g v xs) (hx : xs.length ≤ 1000000000000) (hn : Nam w) (hB : 1 < B) (hg : B ≤ g) (hv : ∀ j, v.ownBlock = some j → B ≤ j) :
    Calls Tryz.prog 139 #[lay 8 0, .pointer (some ⟨g, 0, none⟩), .agg (rqCells f dv av wv ov).toArray] w fun e w' => e = .returned (.tuple #[]) ∧ Puts w g v (xs ++ encP true true false true false true false true f []) w' := by
  have m0 : bits .and .u16 331 1 = 1 := by decide
  have m1 : bits .and .u16 331 2 = 2 := by decide
  have m2 : bits .and .u16 331 4 = 0 := by decide
  have m3 : bits .and .u16 331 8 = 8 := by decide
  have m4 : bits .and .u16 331 16 = 0 := by decide
  have m5 : bits .and .u16 331 32 = 0 := by decide
  have m6 : bits .and .u16 331 64 = 64 := by decide
  have m7 : bits .and .u16 331 128 = 0 := by decide
  have m8 : bits .and .u16 331 256 = 256 := by decide
  have m9 : bits .and .u16 331 512 = 0 := by decide
  have hnm : nms 8 0 3 = 331 := by decide
  have HBD : Hid _ := bdOk_inv hl.bd
  have HLL : Hid (Lies4 w B f dv av wv) := hl
  have HLT : Hid (g < w.heap.size ∧ ∀ k, v.ownBlock = some k → k < w.heap.size) := h.lt
  obtain ⟨oa, on, occ, rfl⟩ := hov
  obtain ⟨kind, path, data, acl, ver, eph, seq, ses, tmo, who⟩ := f
  simp only at hk
  subst hk
  obtain ⟨da, dc, rfl, _⟩ := id hl.hd
  obtain ⟨aa, ac, ea, _⟩ := id hl.ha
  obtain ⟨wa, wc, ew, _⟩ := id hl.hw
  rw [List.length_map] at ea ew
  simp only at ea ew
  subst ea ew
  simp only [rqCells]
  obtain ⟨V, eV⟩ : ∃ V, V = ((w.alloc (.cells #[.int .i8 8, .int .u16 0] 153)).alloc (.cells #[.int .i8 3, .string path, .slice da data.length dc, .slice aa acl.length ac, .int .i32 ver, .bool eph, .bool seq, .int .i64 ses, .int .i32 tmo, .slice wa who.length wc, .slice oa on occ] 35)) := ⟨_, rfl⟩
  have HV : Hid (IsW V g v xs ∧ Nam V ∧ (∀ zs W, Puts V g v zs W → Puts w g v zs W)) := by
    subst eV
    exact ⟨(h.alloc _).alloc _, hn.below (two_alloc w _ _) hn.lt, fun zs W hp => hp.of_alloc.of_alloc⟩
  have HC : Hid (∀ zs W, Puts V g v zs W → Nam W ∧ (∃ v1, IsW W g v1 zs ∧ NewRow V v v1 ∧ Kept V W (fun k => k = g ∨ v.ownBlock = some k) ∧ (∀ j, v1.ownBlock = some j → B ≤ j)) ∧ Lies4 W B ⟨3, path, data, acl, ver, eph, seq, ses, tmo, who⟩ (.slice da data.length dc) (.slice aa acl.length ac) (.slice wa who.length wc) ∧ B ≤ W.heap.size ∧ W.cell? ⟨w.heap.size, 0, none⟩ = some (.int .i8 8) ∧ W.cell? ⟨w.heap.size, 1, none⟩ = some (.int .u16 0) ∧ W.cell? ⟨w.heap.size + 1, 0, none⟩ = some (.int .i8 3) ∧ W.cell? ⟨w.heap.size + 1, 1, none⟩ = some (.string path) ∧ W.cell? ⟨w.heap.size + 1, 2, none⟩ = some (.slice da data.length dc) ∧ W.cell? ⟨w.heap.size + 1, 3, none⟩ = some (.slice aa acl.length ac) ∧ W.cell? ⟨w.heap.size + 1, 4, none⟩ = some (.int .i32 ver) ∧ W.cell? ⟨w.heap.size + 1, 5, none⟩ = some (.bool eph) ∧ W.cell? ⟨w.heap.size + 1, 6, none⟩ = some (.bool seq) ∧ W.cell? ⟨w.heap.size + 1, 7, none⟩ = some (.int .i64 ses) ∧ W.cell? ⟨w.heap.size + 1, 8, none⟩ = some (.int .i32 tmo) ∧ W.cell? ⟨w.heap.size + 1, 9, none⟩ = some (.slice wa who.length wc) ∧ W.cell? ⟨w.heap.size + 1, 10, none⟩ = some (.slice oa on occ)) := by
    intro zs W hp
    have hlt := HLT.out
    have hVs : w.heap.size ≤ V.heap.size := by subst eV; simp; omega
    have hkV : Kept w V (fun _ => False) := by subst eV; exact ((Kept.refl w (fun _ => False)).alloc _).alloc _
    obtain ⟨v1, p1, p2, p3⟩ := id hp
    refine ⟨hp.nam HV.out.2.1 (by omega) (fun j hj => by have := hv j hj; omega), ⟨v1, p1, p2, p3, fun j hj => ?_⟩, ((HLL.out.kept hkV (fun k e => e.elim)).kept p3 (fun k e => ?_)), by have := p3.size; omega, ?_, ?_, ?_, ?_, ?_, ?_, ?_, ?_, ?_, ?_, ?_, ?_, ?_⟩
    · rcases p2 with e | ⟨q, e, hq⟩
      · exact hv j (by rw [← e]; exact hj)
      · rw [hj] at e; simp at e; omega
    · rcases e with e | e
      · omega
      · exact hv k e
    iterate 2 (refine hp.cell (p := ⟨w.heap.size, _, none⟩) ?_ (by show w.heap.size ≠ g; omega) (fun e => by have h1 := hlt.2 _ e; have : w.heap.size < w.heap.size := h1; omega); subst eV; rw [World.cell?_alloc_lt _ _ _ (by simp), cell_of_row _ _ _ _ _ _ (heap_alloc_new _ _)]; rfl)
    all_goals (refine hp.cell (p := ⟨w.heap.size + 1, _, none⟩) ?_ (by show w.heap.size + 1 ≠ g; omega) (fun e => by have h1 := hlt.2 _ e; have : w.heap.size + 1 < w.heap.size := h1; omega); subst eV; rw [cell_of_row _ _ _ _ _ _ (by have := heap_alloc_new (w.alloc (.cells #[.int .i8 8, .int .u16 0] 153)) (.cells #[.int .i8 3, .string path, .slice da data.length dc, .slice aa acl.length ac, .int .i32 ver, .bool eph, .bool seq, .int .i64 ses, .int .i32 tmo, .slice wa who.length wc, .slice oa on occ] 35 (0, 0)); simpa using this)]; rfl)
  have HE : Hid _ := eV
  have HBG : Hid (1 < B ∧ B ≤ g) := ⟨hB, hg⟩
  clear h hn hB hv eV hl
  go_enter Tryz.func139, Tryz.ntmps139
  go_wp2_with fail
  rw [← HE.out]
  refine (wInt8_any g v xs 3 _ HV.out.1 (by omega)).mono ?_
  rintro e w1 ⟨rfl, hp⟩
  have HP1 : Hid (Puts V g v (xs ++ [3 % 256]) w1) := hp
  clear hp HE
  obtain ⟨nm, _, _, _, l0, l1, r0, r1, r2, r3, r4, r5, r6, r7, r8, r9, r10⟩ := HC.out _ _ HP1.out
  go_wp2_with fail
  refine (names_any 8 0 3 _ nm (by omega)).mono ?_
  rintro e w2 ⟨rfl, b2⟩
  rw [hnm]
  have HP2 : Hid (Puts V g v (xs ++ [3 % 256]) w2) := HP1.out.later b2
  clear b2 HP1 nm l0 l1 r0 r1 r2 r3 r4 r5 r6 r7 r8 r9 r10
  obtain ⟨_, ⟨v2, iw2, nr2, kp2, vb2⟩, li2, bs2, l0, l1, r0, r1, r2, r3, r4, r5, r6, r7, r8, r9, r10⟩ := HC.out _ _ HP2.out
  have HW2 : Hid _ := And.intro iw2 (And.intro nr2 (And.intro kp2 (And.intro vb2 (And.intro li2 bs2))))
  clear iw2 nr2 kp2 vb2 li2 bs2
  go_wp2_with fail
  refine (wText_any g v2 _ path _ HW2.out.1 (by have := HBD.out.1; omega) (by have := HBD.out; have hac := acB_len acl (fun y hy => by have := HBD.out.2.2.2.1 y hy; omega); (repeat (first | rw [List.length_append] | rw [be4_length] | rw [be8_length] | rw [txt_len] | rw [List.length_singleton])); omega)).mono ?_
  rintro e w3 ⟨rfl, hp⟩
  have HP3 : Hid (Puts V g v _ w3) := Puts.next HW2.out.2.1 HW2.out.2.2.1 hp
  clear hp HW2 l0 l1 r0 r1 r2 r3 r4 r5 r6 r7 r8 r9 r10
  obtain ⟨_, ⟨v3, iw2, nr2, kp2, vb2⟩, li2, bs2, l0, l1, r0, r1, r2, r3, r4, r5, r6, r7, r8, r9, r10⟩ := HC.out _ _ HP3.out
  have HW3 : Hid _ := And.intro iw2 (And.intro nr2 (And.intro kp2 (And.intro vb2 (And.intro li2 bs2))))
  clear iw2 nr2 kp2 vb2 li2 bs2
  go_wp2_with fail
  refine (wBuffer_any g v3 (.slice da data.length dc) _ data _ HW3.out.1 HW3.out.2.2.2.2.1.hd (fun q hq => ⟨by have := HLL.out.fd q hq; omega, fun e => by have := HLL.out.fd q hq; have := HW3.out.2.2.2.1 q e; omega⟩) (by have := HBD.out; omega) (by have := HBD.out; have hac := acB_len acl (fun y hy => by have := HBD.out.2.2.2.1 y hy; omega); (repeat (first | rw [List.length_append] | rw [be4_length] | rw [be8_length] | rw [txt_len] | rw [List.length_singleton])); omega)).mono ?_
  rintro e w4 ⟨rfl, hp⟩
  have HP4 : Hid (Puts V g v _ w4) := Puts.next HW3.out.2.1 HW3.out.2.2.1 hp
  clear hp HW3 l0 l1 r0 r1 r2 r3 r4 r5 r6 r7 r8 r9 r10
  obtain ⟨_, ⟨v4, iw2, nr2, kp2, vb2⟩, li2, bs2, l0, l1, r0, r1, r2, r3, r4, r5, r6, r7, r8, r9, r10⟩ := HC.out _ _ HP4.out
  have HW4 : Hid _ := And.intro iw2 (And.intro nr2 (And.intro kp2 (And.intro vb2 (And.intro li2 bs2))))
  clear iw2 nr2 kp2 vb2 li2 bs2
  go_wp2_with fail
  refine (wInt32_any g v4 _ ver _ HW4.out.1 (by have := HBD.out; have hac := acB_len acl (fun y hy => by have := HBD.out.2.2.2.1 y hy; omega); (repeat (first | rw [List.length_append] | rw [be4_length] | rw [be8_length] | rw [txt_len] | rw [List.length_singleton])); omega)).mono ?_
  rintro e w5 ⟨rfl, hp⟩
  have HP5 : Hid (Puts V g v _ w5) := Puts.next HW4.out.2.1 HW4.out.2.2.1 hp
  clear hp HW4 l0 l1 r0 r1 r2 r3 r4 r5 r6 r7 r8 r9 r10
  obtain ⟨_, ⟨v5, iw2, nr2, kp2, vb2⟩, li2, bs2, l0, l1, r0, r1, r2, r3, r4, r5, r6, r7, r8, r9, r10⟩ := HC.out _ _ HP5.out
  have HW5 : Hid _ := And.intro iw2 (And.intro nr2 (And.intro kp2 (And.intro vb2 (And.intro li2 bs2))))
  clear iw2 nr2 kp2 vb2 li2 bs2
  go_wp2_with fail
  refine (wInt64_any g v5 _ ses _ HW5.out.1 (by have := HBD.out; have hac := acB_len acl (fun y hy => by have := HBD.out.2.2.2.1 y hy; omega); (repeat (first | rw [List.length_append] | rw [be4_length] | rw [be8_length] | rw [txt_len] | rw [List.length_singleton])); omega)).mono ?_
  rintro e w6 ⟨rfl, hp⟩
  have HP6 : Hid (Puts V g v _ w6) := Puts.next HW5.out.2.1 HW5.out.2.2.1 hp
  clear hp HW5 l0 l1 r0 r1 r2 r3 r4 r5 r6 r7 r8 r9 r10
  obtain ⟨_, ⟨v6, iw2, nr2, kp2, vb2⟩, li2, bs2, l0, l1, r0, r1, r2, r3, r4, r5, r6, r7, r8, r9, r10⟩ := HC.out _ _ HP6.out
  have HW6 : Hid _ := And.intro iw2 (And.intro nr2 (And.intro kp2 (And.intro vb2 (And.intro li2 bs2))))
  clear iw2 nr2 kp2 vb2 li2 bs2
  go_wp2_with fail
  refine (putListI_any 8 0 g v6 (.slice wa who.length wc) _ who _ HW6.out.1 HW6.out.2.2.2.2.1.hw (by have := HBD.out; omega) (fun y hy => by have := HBD.out.2.2.2.2.2.2.2.2 y hy; omega) (by have := HBD.out; have hac := acB_len acl (fun y hy => by have := HBD.out.2.2.2.1 y hy; omega); (repeat (first | rw [List.length_append] | rw [be4_length] | rw [be8_length] | rw [txt_len] | rw [List.length_singleton])); omega) (fun q hq => ⟨by have := HLL.out.fw q hq; omega, fun e => by have := HLL.out.fw q hq; have := HW6.out.2.2.2.1 q e; omega, by have := HLL.out.fw q hq; have := HW6.out.2.2.2.2.2; omega⟩)).mono ?_
  rintro e w7 ⟨rfl, hp⟩
  have HP7 : Hid (Puts V g v _ w7) := Puts.next HW6.out.2.1 HW6.out.2.2.1 hp
  clear hp HW6 l0 l1 r0 r1 r2 r3 r4 r5 r6 r7 r8 r9 r10
  obtain ⟨_, ⟨v7, iw2, nr2, kp2, vb2⟩, li2, bs2, l0, l1, r0, r1, r2, r3, r4, r5, r6, r7, r8, r9, r10⟩ := HC.out _ _ HP7.out
  have HW7 : Hid _ := And.intro iw2 (And.intro nr2 (And.intro kp2 (And.intro vb2 (And.intro li2 bs2))))
  clear iw2 nr2 kp2 vb2 li2 bs2
  go_wp2_with fail
  go_end0
  refine ⟨rfl, HV.out.2.2 _ _ ?_⟩
  have hq := HP7.out
  simpa [encP, txtB] using hq

set_option maxHeartbeats 4000000 in
theorem put_ou4 (f : RqF) (dv av wv ov : Value) (hov : ∃ a n c, ov = .slice a n c) (B g : Nat) (v : Value) (xs : List Int) (w : World) (hk : f.kind = 4) (hl : Lies4 w B f dv av wv) (h : IsW w g v xs) (hx : xs.length ≤ 1000000000000) (hn : Nam w) (hB : 1 < B) (hg : B ≤ g) (hv : ∀ j, v.ownBlock = some j → B ≤ j) :
    Calls Tryz.prog 139 #[lay 8 0, .pointer (some ⟨g, 0, none⟩), .agg (rqCells f dv av wv ov).toArray] w fun e w' => e = .returned (.tuple #[]) ∧ Puts w g v (xs ++ encP true false true true false true false true f []) w' := by
  have m0 : bits .and .u16 333 1 = 1 := by decide
  have m1 : bits .and .u16 333 2 = 0 := by decide
  have m2 : bits .and .u16 333 4 = 4 := by decide
  have m3 : bits .and .u16 333 8 = 8 := by decide
  have m4 : bits .and .u16 333 16 = 0 := by decide
  have m5 : bits .and .u16 333 32 = 0 := by decide
  have m6 : bits .and .u16 333 64 = 64 := by decide
  have m7 : bits .and .u16 333 128 = 0 := by decide
  have m8 : bits .and .u16 333 256 = 256 := by decide
  have m9 : bits .and .u16 333 512 = 0 := by decide
  have hnm : nms 8 0 4 = 333 := by decide
  have HBD : Hid _ := bdOk_inv hl.bd
  have HLL : Hid (Lies4 w B f dv av wv) := hl
  have HLT : Hid (g < w.heap.size ∧ ∀ k, v.ownBlock = some k → k < w.heap.size) := h.lt
  obtain ⟨oa, on, occ, rfl⟩ := hov
  obtain ⟨kind, path, data, acl, ver, eph, seq, ses, tmo, who⟩ := f
  simp only at hk
  subst hk
  obtain ⟨da, dc, rfl, _⟩ := id hl.hd
  obtain ⟨aa, ac, ea, _⟩ := id hl.ha
  obtain ⟨wa, wc, ew, _⟩ := id hl.hw
  rw [List.length_map] at ea ew
  simp only at ea ew
  subst ea ew
  simp only [rqCells]
  obtain ⟨V, eV⟩ : ∃ V, V = ((w.alloc (.cells #[.int .i8 8, .int .u16 0] 153)).alloc (.cells #[.int .i8 4, .string path, .slice da data.length dc, .slice aa acl.length ac, .int .i32 ver, .bool eph, .bool seq, .int .i64 ses, .int .i32 tmo, .slice wa who.length wc, .slice oa on occ] 35)) := ⟨_, rfl⟩
  have HV : Hid (IsW V g v xs ∧ Nam V ∧ (∀ zs W, Puts V g v zs W → Puts w g v zs W)) := by
    subst eV
    exact ⟨(h.alloc _).alloc _, hn.below (two_alloc w _ _) hn.lt, fun zs W hp => hp.of_alloc.of_alloc⟩
  have HC : Hid (∀ zs W, Puts V g v zs W → Nam W ∧ (∃ v1, IsW W g v1 zs ∧ NewRow V v v1 ∧ Kept V W (fun k => k = g ∨ v.ownBlock = some k) ∧ (∀ j, v1.ownBlock = some j → B ≤ j)) ∧ Lies4 W B ⟨4, path, data, acl, ver, eph, seq, ses, tmo, who⟩ (.slice da data.length dc) (.slice aa acl.length ac) (.slice wa who.length wc) ∧ B ≤ W.heap.size ∧ W.cell? ⟨w.heap.size, 0, none⟩ = some (.int .i8 8) ∧ W.cell? ⟨w.heap.size, 1, none⟩ = some (.int .u16 0) ∧ W.cell? ⟨w.heap.size + 1, 0, none⟩ = some (.int .i8 4) ∧ W.cell? ⟨w.heap.size + 1, 1, none⟩ = some (.string path) ∧ W.cell? ⟨w.heap.size + 1, 2, none⟩ = some (.slice da data.length dc) ∧ W.cell? ⟨w.heap.size + 1, 3, none⟩ = some (.slice aa acl.length ac) ∧ W.cell? ⟨w.heap.size + 1, 4, none⟩ = some (.int .i32 ver) ∧ W.cell? ⟨w.heap.size + 1, 5, none⟩ = some (.bool eph) ∧ W.cell? ⟨w.heap.size + 1, 6, none⟩ = some (.bool seq) ∧ W.cell? ⟨w.heap.size + 1, 7, none⟩ = some (.int .i64 ses) ∧ W.cell? ⟨w.heap.size + 1, 8, none⟩ = some (.int .i32 tmo) ∧ W.cell? ⟨w.heap.size + 1, 9, none⟩ = some (.slice wa who.length wc) ∧ W.cell? ⟨w.heap.size + 1, 10, none⟩ = some (.slice oa on occ)) := by
    intro zs W hp
    have hlt := HLT.out
    have hVs : w.heap.size ≤ V.heap.size := by subst eV; simp; omega
    have hkV : Kept w V (fun _ => False) := by subst eV; exact ((Kept.refl w (fun _ => False)).alloc _).alloc _
    obtain ⟨v1, p1, p2, p3⟩ := id hp
    refine ⟨hp.nam HV.out.2.1 (by omega) (fun j hj => by have := hv j hj; omega), ⟨v1, p1, p2, p3, fun j hj => ?_⟩, ((HLL.out.kept hkV (fun k e => e.elim)).kept p3 (fun k e => ?_)), by have := p3.size; omega, ?_, ?_, ?_, ?_, ?_, ?_, ?_, ?_, ?_, ?_, ?_, ?_, ?_⟩
    · rcases p2 with e | ⟨q, e, hq⟩
      · exact hv j (by rw [← e]; exact hj)
      · rw [hj] at e; simp at e; omega
    · rcases e with e | e
      · omega
      · exact hv k e
    iterate 2 (refine hp.cell (p := ⟨w.heap.size, _, none⟩) ?_ (by show w.heap.size ≠ g; omega) (fun e => by have h1 := hlt.2 _ e; have : w.heap.size < w.heap.size := h1; omega); subst eV; rw [World.cell?_alloc_lt _ _ _ (by simp), cell_of_row _ _ _ _ _ _ (heap_alloc_new _ _)]; rfl)
    all_goals (refine hp.cell (p := ⟨w.heap.size + 1, _, none⟩) ?_ (by show w.heap.size + 1 ≠ g; omega) (fun e => by have h1 := hlt.2 _ e; have : w.heap.size + 1 < w.heap.size := h1; omega); subst eV; rw [cell_of_row _ _ _ _ _ _ (by have := heap_alloc_new (w.alloc (.cells #[.int .i8 8, .int .u16 0] 153)) (.cells #[.int .i8 4, .string path, .slice da data.length dc, .slice aa acl.length ac, .int .i32 ver, .bool eph, .bool seq, .int .i64 ses, .int .i32 tmo, .slice wa who.length wc, .slice oa on occ] 35 (0, 0)); simpa using this)]; rfl)
  have HE : Hid _ := eV
  have HBG : Hid (1 < B ∧ B ≤ g) := ⟨hB, hg⟩
  clear h hn hB hv eV hl
  go_enter Tryz.func139, Tryz.ntmps139
  go_wp2_with fail
  rw [← HE.out]
  refine (wInt8_any g v xs 4 _ HV.out.1 (by omega)).mono ?_
  rintro e w1 ⟨rfl, hp⟩
  have HP1 : Hid (Puts V g v (xs ++ [4 % 256]) w1) := hp
  clear hp HE
  obtain ⟨nm, _, _, _, l0, l1, r0, r1, r2, r3, r4, r5, r6, r7, r8, r9, r10⟩ := HC.out _ _ HP1.out
  go_wp2_with fail
  refine (names_any 8 0 4 _ nm (by omega)).mono ?_
  rintro e w2 ⟨rfl, b2⟩
  rw [hnm]
  have HP2 : Hid (Puts V g v (xs ++ [4 % 256]) w2) := HP1.out.later b2
  clear b2 HP1 nm l0 l1 r0 r1 r2 r3 r4 r5 r6 r7 r8 r9 r10
  obtain ⟨_, ⟨v2, iw2, nr2, kp2, vb2⟩, li2, bs2, l0, l1, r0, r1, r2, r3, r4, r5, r6, r7, r8, r9, r10⟩ := HC.out _ _ HP2.out
  have HW2 : Hid _ := And.intro iw2 (And.intro nr2 (And.intro kp2 (And.intro vb2 (And.intro li2 bs2))))
  clear iw2 nr2 kp2 vb2 li2 bs2
  go_wp2_with fail
  refine (wText_any g v2 _ path _ HW2.out.1 (by have := HBD.out.1; omega) (by have := HBD.out; have hac := acB_len acl (fun y hy => by have := HBD.out.2.2.2.1 y hy; omega); (repeat (first | rw [List.length_append] | rw [be4_length] | rw [be8_length] | rw [txt_len] | rw [List.length_singleton])); omega)).mono ?_
  rintro e w3 ⟨rfl, hp⟩
  have HP3 : Hid (Puts V g v _ w3) := Puts.next HW2.out.2.1 HW2.out.2.2.1 hp
  clear hp HW2 l0 l1 r0 r1 r2 r3 r4 r5 r6 r7 r8 r9 r10
  obtain ⟨_, ⟨v3, iw2, nr2, kp2, vb2⟩, li2, bs2, l0, l1, r0, r1, r2, r3, r4, r5, r6, r7, r8, r9, r10⟩ := HC.out _ _ HP3.out
  have HW3 : Hid _ := And.intro iw2 (And.intro nr2 (And.intro kp2 (And.intro vb2 (And.intro li2 bs2))))
  clear iw2 nr2 kp2 vb2 li2 bs2
  go_wp2_with fail
  refine (putListE_any 8 0 g v3 (.slice aa acl.length ac) _ acl _ HW3.out.1 HW3.out.2.2.2.2.1.ha (by have := HBD.out; omega) (fun y hy => by have := HBD.out.2.2.2.1 y hy; omega) (by have := HBD.out; have hac := acB_len acl (fun y hy => by have := HBD.out.2.2.2.1 y hy; omega); (repeat (first | rw [List.length_append] | rw [be4_length] | rw [be8_length] | rw [txt_len] | rw [List.length_singleton])); omega) (fun q hq => ⟨by have := HLL.out.fa q hq; omega, fun e => by have := HLL.out.fa q hq; have := HW3.out.2.2.2.1 q e; omega, by have := HLL.out.fa q hq; have := HW3.out.2.2.2.2.2; omega⟩)).mono ?_
  rintro e w4 ⟨rfl, hp⟩
  have HP4 : Hid (Puts V g v _ w4) := Puts.next HW3.out.2.1 HW3.out.2.2.1 hp
  clear hp HW3 l0 l1 r0 r1 r2 r3 r4 r5 r6 r7 r8 r9 r10
  obtain ⟨_, ⟨v4, iw2, nr2, kp2, vb2⟩, li2, bs2, l0, l1, r0, r1, r2, r3, r4, r5, r6, r7, r8, r9, r10⟩ := HC.out _ _ HP4.out
  have HW4 : Hid _ := And.intro iw2 (And.intro nr2 (And.intro kp2 (And.intro vb2 (And.intro li2 bs2))))
  clear iw2 nr2 kp2 vb2 li2 bs2
  go_wp2_with fail
  refine (wInt32_any g v4 _ ver _ HW4.out.1 (by have := HBD.out; have hac := acB_len acl (fun y hy => by have := HBD.out.2.2.2.1 y hy; omega); (repeat (first | rw [List.length_append] | rw [be4_length] | rw [be8_length] | rw [txt_len] | rw [List.length_singleton])); omega)).mono ?_
  rintro e w5 ⟨rfl, hp⟩
  have HP5 : Hid (Puts V g v _ w5) := Puts.next HW4.out.2.1 HW4.out.2.2.1 hp
  clear hp HW4 l0 l1 r0 r1 r2 r3 r4 r5 r6 r7 r8 r9 r10
  obtain ⟨_, ⟨v5, iw2, nr2, kp2, vb2⟩, li2, bs2, l0, l1, r0, r1, r2, r3, r4, r5, r6, r7, r8, r9, r10⟩ := HC.out _ _ HP5.out
  have HW5 : Hid _ := And.intro iw2 (And.intro nr2 (And.intro kp2 (And.intro vb2 (And.intro li2 bs2))))
  clear iw2 nr2 kp2 vb2 li2 bs2
  go_wp2_with fail
  refine (wInt64_any g v5 _ ses _ HW5.out.1 (by have := HBD.out; have hac := acB_len acl (fun y hy => by have := HBD.out.2.2.2.1 y hy; omega); (repeat (first | rw [List.length_append] | rw [be4_length] | rw [be8_length] | rw [txt_len] | rw [List.length_singleton])); omega)).mono ?_
  rintro e w6 ⟨rfl, hp⟩
  have HP6 : Hid (Puts V g v _ w6) := Puts.next HW5.out.2.1 HW5.out.2.2.1 hp
  clear hp HW5 l0 l1 r0 r1 r2 r3 r4 r5 r6 r7 r8 r9 r10
  obtain ⟨_, ⟨v6, iw2, nr2, kp2, vb2⟩, li2, bs2, l0, l1, r0, r1, r2, r3, r4, r5, r6, r7, r8, r9, r10⟩ := HC.out _ _ HP6.out
  have HW6 : Hid _ := And.intro iw2 (And.intro nr2 (And.intro kp2 (And.intro vb2 (And.intro li2 bs2))))
  clear iw2 nr2 kp2 vb2 li2 bs2
  go_wp2_with fail
  refine (putListI_any 8 0 g v6 (.slice wa who.length wc) _ who _ HW6.out.1 HW6.out.2.2.2.2.1.hw (by have := HBD.out; omega) (fun y hy => by have := HBD.out.2.2.2.2.2.2.2.2 y hy; omega) (by have := HBD.out; have hac := acB_len acl (fun y hy => by have := HBD.out.2.2.2.1 y hy; omega); (repeat (first | rw [List.length_append] | rw [be4_length] | rw [be8_length] | rw [txt_len] | rw [List.length_singleton])); omega) (fun q hq => ⟨by have := HLL.out.fw q hq; omega, fun e => by have := HLL.out.fw q hq; have := HW6.out.2.2.2.1 q e; omega, by have := HLL.out.fw q hq; have := HW6.out.2.2.2.2.2; omega⟩)).mono ?_
  rintro e w7 ⟨rfl, hp⟩
  have HP7 : Hid (Puts V g v _ w7) := Puts.next HW6.out.2.1 HW6.out.2.2.1 hp
  clear hp HW6 l0 l1 r0 r1 r2 r3 r4 r5 r6 r7 r8 r9 r10
  obtain ⟨_, ⟨v7, iw2, nr2, kp2, vb2⟩, li2, bs2, l0, l1, r0, r1, r2, r3, r4, r5, r6, r7, r8, r9, r10⟩ := HC.out _ _ HP7.out
  have HW7 : Hid _ := And.intro iw2 (And.intro nr2 (And.intro kp2 (And.intro vb2 (And.intro li2 bs2))))
  clear iw2 nr2 kp2 vb2 li2 bs2
  go_wp2_with fail
  go_end0
  refine ⟨rfl, HV.out.2.2 _ _ ?_⟩
  have hq := HP7.out
  simpa [encP, txtB] using hq

set_option maxHeartbeats 4000000 in
theorem put_ou5 (f : RqF) (dv av wv ov : Value) (hov : ∃ a n c, ov = .slice a n c) (B g : Nat) (v : Value) (xs : List Int) (w : World) (hk : f.kind = 5) (hl : Lies4 w B f dv av wv) (h : IsW w g v xs) (hx : xs.length ≤ 1000000000000) (hn : Nam w) (hB : 1 < B) (hg : B ≤ g) (hv : ∀ j, v.ownBlock = some j → B ≤ j) :
    Calls Tryz.prog 139 #[lay 8 0, .pointer (some ⟨g, 0, none⟩), .agg (rqCells f dv av wv ov).toArray] w fun e w' => e = .returned (.tuple #[]) ∧ Puts w g v (xs ++ encP true false false true false true false true f []) w' := by
  have m0 : bits .and .u16 329 1 = 1 := by decide
  have m1 : bits .and .u16 329 2 = 0 := by decide
  have m2 : bits .and .u16 329 4 = 0 := by decide
  have m3 : bits .and .u16 329 8 = 8 := by decide
  have m4 : bits .and .u16 329 16 = 0 := by decide
  have m5 : bits .and .u16 329 32 = 0 := by decide
  have m6 : bits .and .u16 329 64 = 64 := by decide
  have m7 : bits .and .u16 329 128 = 0 := by decide
  have m8 : bits .and .u16 329 256 = 256 := by decide
  have m9 : bits .and .u16 329 512 = 0 := by decide
  have hnm : nms 8 0 5 = 329 := by decide
  have HBD : Hid _ := bdOk_inv hl.bd
  have HLL : Hid (Lies4 w B f dv av wv) := hl
  have HLT : Hid (g < w.heap.size ∧ ∀ k, v.ownBlock = some k → k < w.heap.size) := h.lt
  obtain ⟨oa, on, occ, rfl⟩ := hov
  obtain ⟨kind, path, data, acl, ver, eph, seq, ses, tmo, who⟩ := f
  simp only at hk
  subst hk
  obtain ⟨da, dc, rfl, _⟩ := id hl.hd
  obtain ⟨aa, ac, ea, _⟩ := id hl.ha
  obtain ⟨wa, wc, ew, _⟩ := id hl.hw
  rw [List.length_map] at ea ew
  simp only at ea ew
  subst ea ew
  simp only [rqCells]
  obtain ⟨V, eV⟩ : ∃ V, V = ((w.alloc (.cells #[.int .i8 8, .int .u16 0] 153)).alloc (.cells #[.int .i8 5, .string path, .slice da data.length dc, .slice aa acl.length ac, .int .i32 ver, .bool eph, .bool seq, .int .i64 ses, .int .i32 tmo, .slice wa who.length wc, .slice oa on occ] 35)) := ⟨_, rfl⟩
  have HV : Hid (IsW V g v xs ∧ Nam V ∧ (∀ zs W, Puts V g v zs W → Puts w g v zs W)) := by
    subst eV
    exact ⟨(h.alloc _).alloc _, hn.below (two_alloc w _ _) hn.lt, fun zs W hp => hp.of_alloc.of_alloc⟩
  have HC : Hid (∀ zs W, Puts V g v zs W → Nam W ∧ (∃ v1, IsW W g v1 zs ∧ NewRow V v v1 ∧ Kept V W (fun k => k = g ∨ v.ownBlock = some k) ∧ (∀ j, v1.ownBlock = some j → B ≤ j)) ∧ Lies4 W B ⟨5, path, data, acl, ver, eph, seq, ses, tmo, who⟩ (.slice da data.length dc) (.slice aa acl.length ac) (.slice wa who.length wc) ∧ B ≤ W.heap.size ∧ W.cell? ⟨w.heap.size, 0, none⟩ = some (.int .i8 8) ∧ W.cell? ⟨w.heap.size, 1, none⟩ = some (.int .u16 0) ∧ W.cell? ⟨w.heap.size + 1, 0, none⟩ = some (.int .i8 5) ∧ W.cell? ⟨w.heap.size + 1, 1, none⟩ = some (.string path) ∧ W.cell? ⟨w.heap.size + 1, 2, none⟩ = some (.slice da data.length dc) ∧ W.cell? ⟨w.heap.size + 1, 3, none⟩ = some (.slice aa acl.length ac) ∧ W.cell? ⟨w.heap.size + 1, 4, none⟩ = some (.int .i32 ver) ∧ W.cell? ⟨w.heap.size + 1, 5, none⟩ = some (.bool eph) ∧ W.cell? ⟨w.heap.size + 1, 6, none⟩ = some (.bool seq) ∧ W.cell? ⟨w.heap.size + 1, 7, none⟩ = some (.int .i64 ses) ∧ W.cell? ⟨w.heap.size + 1, 8, none⟩ = some (.int .i32 tmo) ∧ W.cell? ⟨w.heap.size + 1, 9, none⟩ = some (.slice wa who.length wc) ∧ W.cell? ⟨w.heap.size + 1, 10, none⟩ = some (.slice oa on occ)) := by
    intro zs W hp
    have hlt := HLT.out
    have hVs : w.heap.size ≤ V.heap.size := by subst eV; simp; omega
    have hkV : Kept w V (fun _ => False) := by subst eV; exact ((Kept.refl w (fun _ => False)).alloc _).alloc _
    obtain ⟨v1, p1, p2, p3⟩ := id hp
    refine ⟨hp.nam HV.out.2.1 (by omega) (fun j hj => by have := hv j hj; omega), ⟨v1, p1, p2, p3, fun j hj => ?_⟩, ((HLL.out.kept hkV (fun k e => e.elim)).kept p3 (fun k e => ?_)), by have := p3.size; omega, ?_, ?_, ?_, ?_, ?_, ?_, ?_, ?_, ?_, ?_, ?_, ?_, ?_⟩
    · rcases p2 with e | ⟨q, e, hq⟩
      · exact hv j (by rw [← e]; exact hj)
      · rw [hj] at e; simp at e; omega
    · rcases e with e | e
      · omega
      · exact hv k e
    iterate 2 (refine hp.cell (p := ⟨w.heap.size, _, none⟩) ?_ (by show w.heap.size ≠ g; omega) (fun e => by have h1 := hlt.2 _ e; have : w.heap.size < w.heap.size := h1; omega); subst eV; rw [World.cell?_alloc_lt _ _ _ (by simp), cell_of_row _ _ _ _ _ _ (heap_alloc_new _ _)]; rfl)
    all_goals (refine hp.cell (p := ⟨w.heap.size + 1, _, none⟩) ?_ (by show w.heap.size + 1 ≠ g; omega) (fun e => by have h1 := hlt.2 _ e; have : w.heap.size + 1 < w.heap.size := h1; omega); subst eV; rw [cell_of_row _ _ _ _ _ _ (by have := heap_alloc_new (w.alloc (.cells #[.int .i8 8, .int .u16 0] 153)) (.cells #[.int .i8 5, .string path, .slice da data.length dc, .slice aa acl.length ac, .int .i32 ver, .bool eph, .bool seq, .int .i64 ses, .int .i32 tmo, .slice wa who.length wc, .slice oa on occ] 35 (0, 0)); simpa using this)]; rfl)
  have HE : Hid _ := eV
  have HBG : Hid (1 < B ∧ B ≤ g) := ⟨hB, hg⟩
  clear h hn hB hv eV hl
  go_enter Tryz.func139, Tryz.ntmps139
  go_wp2_with fail
  rw [← HE.out]
  refine (wInt8_any g v xs 5 _ HV.out.1 (by omega)).mono ?_
  rintro e w1 ⟨rfl, hp⟩
  have HP1 : Hid (Puts V g v (xs ++ [5 % 256]) w1) := hp
  clear hp HE
  obtain ⟨nm, _, _, _, l0, l1, r0, r1, r2, r3, r4, r5, r6, r7, r8, r9, r10⟩ := HC.out _ _ HP1.out
  go_wp2_with fail
  refine (names_any 8 0 5 _ nm (by omega)).mono ?_
  rintro e w2 ⟨rfl, b2⟩
  rw [hnm]
  have HP2 : Hid (Puts V g v (xs ++ [5 % 256]) w2) := HP1.out.later b2
  clear b2 HP1 nm l0 l1 r0 r1 r2 r3 r4 r5 r6 r7 r8 r9 r10
  obtain ⟨_, ⟨v2, iw2, nr2, kp2, vb2⟩, li2, bs2, l0, l1, r0, r1, r2, r3, r4, r5, r6, r7, r8, r9, r10⟩ := HC.out _ _ HP2.out
  have HW2 : Hid _ := And.intro iw2 (And.intro nr2 (And.intro kp2 (And.intro vb2 (And.intro li2 bs2))))
  clear iw2 nr2 kp2 vb2 li2 bs2
  go_wp2_with fail
  refine (wText_any g v2 _ path _ HW2.out.1 (by have := HBD.out.1; omega) (by have := HBD.out; have hac := acB_len acl (fun y hy => by have := HBD.out.2.2.2.1 y hy; omega); (repeat (first | rw [List.length_append] | rw [be4_length] | rw [be8_length] | rw [txt_len] | rw [List.length_singleton])); omega)).mono ?_
  rintro e w3 ⟨rfl, hp⟩
  have HP3 : Hid (Puts V g v _ w3) := Puts.next HW2.out.2.1 HW2.out.2.2.1 hp
  clear hp HW2 l0 l1 r0 r1 r2 r3 r4 r5 r6 r7 r8 r9 r10
  obtain ⟨_, ⟨v3, iw2, nr2, kp2, vb2⟩, li2, bs2, l0, l1, r0, r1, r2, r3, r4, r5, r6, r7, r8, r9, r10⟩ := HC.out _ _ HP3.out
  have HW3 : Hid _ := And.intro iw2 (And.intro nr2 (And.intro kp2 (And.intro vb2 (And.intro li2 bs2))))
  clear iw2 nr2 kp2 vb2 li2 bs2
  go_wp2_with fail
  refine (wInt32_any g v3 _ ver _ HW3.out.1 (by have := HBD.out; have hac := acB_len acl (fun y hy => by have := HBD.out.2.2.2.1 y hy; omega); (repeat (first | rw [List.length_append] | rw [be4_length] | rw [be8_length] | rw [txt_len] | rw [List.length_singleton])); omega)).mono ?_
  rintro e w4 ⟨rfl, hp⟩
  have HP4 : Hid (Puts V g v _ w4) := Puts.next HW3.out.2.1 HW3.out.2.2.1 hp
  clear hp HW3 l0 l1 r0 r1 r2 r3 r4 r5 r6 r7 r8 r9 r10
  obtain ⟨_, ⟨v4, iw2, nr2, kp2, vb2⟩, li2, bs2, l0, l1, r0, r1, r2, r3, r4, r5, r6, r7, r8, r9, r10⟩ := HC.out _ _ HP4.out
  have HW4 : Hid _ := And.intro iw2 (And.intro nr2 (And.intro kp2 (And.intro vb2 (And.intro li2 bs2))))
  clear iw2 nr2 kp2 vb2 li2 bs2
  go_wp2_with fail
  refine (wInt64_any g v4 _ ses _ HW4.out.1 (by have := HBD.out; have hac := acB_len acl (fun y hy => by have := HBD.out.2.2.2.1 y hy; omega); (repeat (first | rw [List.length_append] | rw [be4_length] | rw [be8_length] | rw [txt_len] | rw [List.length_singleton])); omega)).mono ?_
  rintro e w5 ⟨rfl, hp⟩
  have HP5 : Hid (Puts V g v _ w5) := Puts.next HW4.out.2.1 HW4.out.2.2.1 hp
  clear hp HW4 l0 l1 r0 r1 r2 r3 r4 r5 r6 r7 r8 r9 r10
  obtain ⟨_, ⟨v5, iw2, nr2, kp2, vb2⟩, li2, bs2, l0, l1, r0, r1, r2, r3, r4, r5, r6, r7, r8, r9, r10⟩ := HC.out _ _ HP5.out
  have HW5 : Hid _ := And.intro iw2 (And.intro nr2 (And.intro kp2 (And.intro vb2 (And.intro li2 bs2))))
  clear iw2 nr2 kp2 vb2 li2 bs2
  go_wp2_with fail
  refine (putListI_any 8 0 g v5 (.slice wa who.length wc) _ who _ HW5.out.1 HW5.out.2.2.2.2.1.hw (by have := HBD.out; omega) (fun y hy => by have := HBD.out.2.2.2.2.2.2.2.2 y hy; omega) (by have := HBD.out; have hac := acB_len acl (fun y hy => by have := HBD.out.2.2.2.1 y hy; omega); (repeat (first | rw [List.length_append] | rw [be4_length] | rw [be8_length] | rw [txt_len] | rw [List.length_singleton])); omega) (fun q hq => ⟨by have := HLL.out.fw q hq; omega, fun e => by have := HLL.out.fw q hq; have := HW5.out.2.2.2.1 q e; omega, by have := HLL.out.fw q hq; have := HW5.out.2.2.2.2.2; omega⟩)).mono ?_
  rintro e w6 ⟨rfl, hp⟩
  have HP6 : Hid (Puts V g v _ w6) := Puts.next HW5.out.2.1 HW5.out.2.2.1 hp
  clear hp HW5 l0 l1 r0 r1 r2 r3 r4 r5 r6 r7 r8 r9 r10
  obtain ⟨_, ⟨v6, iw2, nr2, kp2, vb2⟩, li2, bs2, l0, l1, r0, r1, r2, r3, r4, r5, r6, r7, r8, r9, r10⟩ := HC.out _ _ HP6.out
  have HW6 : Hid _ := And.intro iw2 (And.intro nr2 (And.intro kp2 (And.intro vb2 (And.intro li2 bs2))))
  clear iw2 nr2 kp2 vb2 li2 bs2
  go_wp2_with fail
  go_end0
  refine ⟨rfl, HV.out.2.2 _ _ ?_⟩
  have hq := HP6.out
  simpa [encP, txtB] using hq

set_option maxHeartbeats 4000000 in
theorem put_ou7 (f : RqF) (dv av wv ov : Value) (hov : ∃ a n c, ov = .slice a n c) (B g : Nat) (v : Value) (xs : List Int) (w : World) (hk : f.kind = 7) (hl : Lies4 w B f dv av wv) (h : IsW w g v xs) (hx : xs.length ≤ 1000000000000) (hn : Nam w) (hB : 1 < B) (hg : B ≤ g) (hv : ∀ j, v.ownBlock = some j → B ≤ j) :
    Calls Tryz.prog 139 #[lay 8 0, .pointer (some ⟨g, 0, none⟩), .agg (rqCells f dv av wv ov).toArray] w fun e w' => e = .returned (.tuple #[]) ∧ Puts w g v (xs ++ encP false false false false false false true false f []) w' := by
  have m0 : bits .and .u16 128 1 = 0 := by decide
  have m1 : bits .and .u16 128 2 = 0 := by decide
  have m2 : bits .and .u16 128 4 = 0 := by decide
  have m3 : bits .and .u16 128 8 = 0 := by decide
  have m4 : bits .and .u16 128 16 = 0 := by decide
  have m5 : bits .and .u16 128 32 = 0 := by decide
  have m6 : bits .and .u16 128 64 = 0 := by decide
  have m7 : bits .and .u16 128 128 = 128 := by decide
  have m8 : bits .and .u16 128 256 = 0 := by decide
  have m9 : bits .and .u16 128 512 = 0 := by decide
  have hnm : nms 8 0 7 = 128 := by decide
  have HBD : Hid _ := bdOk_inv hl.bd
  have HLL : Hid (Lies4 w B f dv av wv) := hl
  have HLT : Hid (g < w.heap.size ∧ ∀ k, v.ownBlock = some k → k < w.heap.size) := h.lt
  obtain ⟨oa, on, occ, rfl⟩ := hov
  obtain ⟨kind, path, data, acl, ver, eph, seq, ses, tmo, who⟩ := f
  simp only at hk
  subst hk
  obtain ⟨da, dc, rfl, _⟩ := id hl.hd
  obtain ⟨aa, ac, ea, _⟩ := id hl.ha
  obtain ⟨wa, wc, ew, _⟩ := id hl.hw
  rw [List.length_map] at ea ew
  simp only at ea ew
  subst ea ew
  simp only [rqCells]
  obtain ⟨V, eV⟩ : ∃ V, V = ((w.alloc (.cells #[.int .i8 8, .int .u16 0] 153)).alloc (.cells #[.int .i8 7, .string path, .slice da data.length dc, .slice aa acl.length ac, .int .i32 ver, .bool eph, .bool seq, .int .i64 ses, .int .i32 tmo, .slice wa who.length wc, .slice oa on occ] 35)) := ⟨_, rfl⟩
  have HV : Hid (IsW V g v xs ∧ Nam V ∧ (∀ zs W, Puts V g v zs W → Puts w g v zs W)) := by
    subst eV
    exact ⟨(h.alloc _).alloc _, hn.below (two_alloc w _ _) hn.lt, fun zs W hp => hp.of_alloc.of_alloc⟩
  have HC : Hid (∀ zs W, Puts V g v zs W → Nam W ∧ (∃ v1, IsW W g v1 zs ∧ NewRow V v v1 ∧ Kept V W (fun k => k = g ∨ v.ownBlock = some k) ∧ (∀ j, v1.ownBlock = some j → B ≤ j)) ∧ Lies4 W B ⟨7, path, data, acl, ver, eph, seq, ses, tmo, who⟩ (.slice da data.length dc) (.slice aa acl.length ac) (.slice wa who.length wc) ∧ B ≤ W.heap.size ∧ W.cell? ⟨w.heap.size, 0, none⟩ = some (.int .i8 8) ∧ W.cell? ⟨w.heap.size, 1, none⟩ = some (.int .u16 0) ∧ W.cell? ⟨w.heap.size + 1, 0, none⟩ = some (.int .i8 7) ∧ W.cell? ⟨w.heap.size + 1, 1, none⟩ = some (.string path) ∧ W.cell? ⟨w.heap.size + 1, 2, none⟩ = some (.slice da data.length dc) ∧ W.cell? ⟨w.heap.size + 1, 3, none⟩ = some (.slice aa acl.length ac) ∧ W.cell? ⟨w.heap.size + 1, 4, none⟩ = some (.int .i32 ver) ∧ W.cell? ⟨w.heap.size + 1, 5, none⟩ = some (.bool eph) ∧ W.cell? ⟨w.heap.size + 1, 6, none⟩ = some (.bool seq) ∧ W.cell? ⟨w.heap.size + 1, 7, none⟩ = some (.int .i64 ses) ∧ W.cell? ⟨w.heap.size + 1, 8, none⟩ = some (.int .i32 tmo) ∧ W.cell? ⟨w.heap.size + 1, 9, none⟩ = some (.slice wa who.length wc) ∧ W.cell? ⟨w.heap.size + 1, 10, none⟩ = some (.slice oa on occ)) := by
    intro zs W hp
    have hlt := HLT.out
    have hVs : w.heap.size ≤ V.heap.size := by subst eV; simp; omega
    have hkV : Kept w V (fun _ => False) := by subst eV; exact ((Kept.refl w (fun _ => False)).alloc _).alloc _
    obtain ⟨v1, p1, p2, p3⟩ := id hp
    refine ⟨hp.nam HV.out.2.1 (by omega) (fun j hj => by have := hv j hj; omega), ⟨v1, p1, p2, p3, fun j hj => ?_⟩, ((HLL.out.kept hkV (fun k e => e.elim)).kept p3 (fun k e => ?_)), by have := p3.size; omega, ?_, ?_, ?_, ?_, ?_, ?_, ?_, ?_, ?_, ?_, ?_, ?_, ?_⟩
    · rcases p2 with e | ⟨q, e, hq⟩
      · exact hv j (by rw [← e]; exact hj)
      · rw [hj] at e; simp at e; omega
    · rcases e with e | e
      · omega
      · exact hv k e
    iterate 2 (refine hp.cell (p := ⟨w.heap.size, _, none⟩) ?_ (by show w.heap.size ≠ g; omega) (fun e => by have h1 := hlt.2 _ e; have : w.heap.size < w.heap.size := h1; omega); subst eV; rw [World.cell?_alloc_lt _ _ _ (by simp), cell_of_row _ _ _ _ _ _ (heap_alloc_new _ _)]; rfl)
    all_goals (refine hp.cell (p := ⟨w.heap.size + 1, _, none⟩) ?_ (by show w.heap.size + 1 ≠ g; omega) (fun e => by have h1 := hlt.2 _ e; have : w.heap.size + 1 < w.heap.size := h1; omega); subst eV; rw [cell_of_row _ _ _ _ _ _ (by have := heap_alloc_new (w.alloc (.cells #[.int .i8 8, .int .u16 0] 153)) (.cells #[.int .i8 7, .string path, .slice da data.length dc, .slice aa acl.length ac, .int .i32 ver, .bool eph, .bool seq, .int .i64 ses, .int .i32 tmo, .slice wa who.length wc, .slice oa on occ] 35 (0, 0)); simpa using this)]; rfl)
  have HE : Hid _ := eV
  have HBG : Hid (1 < B ∧ B ≤ g) := ⟨hB, hg⟩
  clear h hn hB hv eV hl
  go_enter Tryz.func139, Tryz.ntmps139
  go_wp2_with fail
  rw [← HE.out]
  refine (wInt8_any g v xs 7 _ HV.out.1 (by omega)).mono ?_
  rintro e w1 ⟨rfl, hp⟩
  have HP1 : Hid (Puts V g v (xs ++ [7 % 256]) w1) := hp
  clear hp HE
  obtain ⟨nm, _, _, _, l0, l1, r0, r1, r2, r3, r4, r5, r6, r7, r8, r9, r10⟩ := HC.out _ _ HP1.out
  go_wp2_with fail
  refine (names_any 8 0 7 _ nm (by omega)).mono ?_
  rintro e w2 ⟨rfl, b2⟩
  rw [hnm]
  have HP2 : Hid (Puts V g v (xs ++ [7 % 256]) w2) := HP1.out.later b2
  clear b2 HP1 nm l0 l1 r0 r1 r2 r3 r4 r5 r6 r7 r8 r9 r10
  obtain ⟨_, ⟨v2, iw2, nr2, kp2, vb2⟩, li2, bs2, l0, l1, r0, r1, r2, r3, r4, r5, r6, r7, r8, r9, r10⟩ := HC.out _ _ HP2.out
  have HW2 : Hid _ := And.intro iw2 (And.intro nr2 (And.intro kp2 (And.intro vb2 (And.intro li2 bs2))))
  clear iw2 nr2 kp2 vb2 li2 bs2
  go_wp2_with fail
  refine (wInt32_any g v2 _ tmo _ HW2.out.1 (by have := HBD.out; have hac := acB_len acl (fun y hy => by have := HBD.out.2.2.2.1 y hy; omega); (repeat (first | rw [List.length_append] | rw [be4_length] | rw [be8_length] | rw [txt_len] | rw [List.length_singleton])); omega)).mono ?_
  rintro e w3 ⟨rfl, hp⟩
  have HP3 : Hid (Puts V g v _ w3) := Puts.next HW2.out.2.1 HW2.out.2.2.1 hp
  clear hp HW2 l0 l1 r0 r1 r2 r3 r4 r5 r6 r7 r8 r9 r10
  obtain ⟨_, ⟨v3, iw2, nr2, kp2, vb2⟩, li2, bs2, l0, l1, r0, r1, r2, r3, r4, r5, r6, r7, r8, r9, r10⟩ := HC.out _ _ HP3.out
  have HW3 : Hid _ := And.intro iw2 (And.intro nr2 (And.intro kp2 (And.intro vb2 (And.intro li2 bs2))))
  clear iw2 nr2 kp2 vb2 li2 bs2
  go_wp2_with fail
  go_end0
  refine ⟨rfl, HV.out.2.2 _ _ ?_⟩
  have hq := HP3.out
  simpa [encP, txtB] using hq

set_option maxHeartbeats 4000000 in
theorem put_ou8 (f : RqF) (dv av wv ov : Value) (hov : ∃ a n c, ov = .slice a n c) (B g : Nat) (v : Value) (xs : List Int) (w : World) (hk : f.kind = 8) (hl : Lies4 w B f dv av wv) (h : IsW w g v xs) (hx : xs.length ≤ 1000000000000) (hn : Nam w) (hB : 1 < B) (hg : B ≤ g) (hv : ∀ j, v.ownBlock = some j → B ≤ j) :
    Calls Tryz.prog 139 #[lay 8 0, .pointer (some ⟨g, 0, none⟩), .agg (rqCells f dv av wv ov).toArray] w fun e w' => e = .returned (.tuple #[]) ∧ Puts w g v (xs ++ encP false false false false false true false false f []) w' := by
  have m0 : bits .and .u16 64 1 = 0 := by decide
  have m1 : bits .and .u16 64 2 = 0 := by decide
  have m2 : bits .and .u16 64 4 = 0 := by decide
  have m3 : bits .and .u16 64 8 = 0 := by decide
  have m4 : bits .and .u16 64 16 = 0 := by decide
  have m5 : bits .and .u16 64 32 = 0 := by decide
  have m6 : bits .and .u16 64 64 = 64 := by decide
  have m7 : bits .and .u16 64 128 = 0 := by decide
  have m8 : bits .and .u16 64 256 = 0 := by decide
  have m9 : bits .and .u16 64 512 = 0 := by decide
  have hnm : nms 8 0 8 = 64 := by decide
  have HBD : Hid _ := bdOk_inv hl.bd
  have HLL : Hid (Lies4 w B f dv av wv) := hl
  have HLT : Hid (g < w.heap.size ∧ ∀ k, v.ownBlock = some k → k < w.heap.size) := h.lt
  obtain ⟨oa, on, occ, rfl⟩ := hov
  obtain ⟨kind, path, data, acl, ver, eph, seq, ses, tmo, who⟩ := f
  simp only at hk
  subst hk
  obtain ⟨da, dc, rfl, _⟩ := id hl.hd
  obtain ⟨aa, ac, ea, _⟩ := id hl.ha
  obtain ⟨wa, wc, ew, _⟩ := id hl.hw
  rw [List.length_map] at ea ew
  simp only at ea ew
  subst ea ew
  simp only [rqCells]
  obtain ⟨V, eV⟩ : ∃ V, V = ((w.alloc (.cells #[.int .i8 8, .int .u16 0] 153)).alloc (.cells #[.int .i8 8, .string path, .slice da data.length dc, .slice aa acl.length ac, .int .i32 ver, .bool eph, .bool seq, .int .i64 ses, .int .i32 tmo, .slice wa who.length wc, .slice oa on occ] 35)) := ⟨_, rfl⟩
  have HV : Hid (IsW V g v xs ∧ Nam V ∧ (∀ zs W, Puts V g v zs W → Puts w g v zs W)) := by
    subst eV
    exact ⟨(h.alloc _).alloc _, hn.below (two_alloc w _ _) hn.lt, fun zs W hp => hp.of_alloc.of_alloc⟩
  have HC : Hid (∀ zs W, Puts V g v zs W → Nam W ∧ (∃ v1, IsW W g v1 zs ∧ NewRow V v v1 ∧ Kept V W (fun k => k = g ∨ v.ownBlock = some k) ∧ (∀ j, v1.ownBlock = some j → B ≤ j)) ∧ Lies4 W B ⟨8, path, data, acl, ver, eph, seq, ses, tmo, who⟩ (.slice da data.length dc) (.slice aa acl.length ac) (.slice wa who.length wc) ∧ B ≤ W.heap.size ∧ W.cell? ⟨w.heap.size, 0, none⟩ = some (.int .i8 8) ∧ W.cell? ⟨w.heap.size, 1, none⟩ = some (.int .u16 0) ∧ W.cell? ⟨w.heap.size + 1, 0, none⟩ = some (.int .i8 8) ∧ W.cell? ⟨w.heap.size + 1, 1, none⟩ = some (.string path) ∧ W.cell? ⟨w.heap.size + 1, 2, none⟩ = some (.slice da data.length dc) ∧ W.cell? ⟨w.heap.size + 1, 3, none⟩ = some (.slice aa acl.length ac) ∧ W.cell? ⟨w.heap.size + 1, 4, none⟩ = some (.int .i32 ver) ∧ W.cell? ⟨w.heap.size + 1, 5, none⟩ = some (.bool eph) ∧ W.cell? ⟨w.heap.size + 1, 6, none⟩ = some (.bool seq) ∧ W.cell? ⟨w.heap.size + 1, 7, none⟩ = some (.int .i64 ses) ∧ W.cell? ⟨w.heap.size + 1, 8, none⟩ = some (.int .i32 tmo) ∧ W.cell? ⟨w.heap.size + 1, 9, none⟩ = some (.slice wa who.length wc) ∧ W.cell? ⟨w.heap.size + 1, 10, none⟩ = some (.slice oa on occ)) := by
    intro zs W hp
    have hlt := HLT.out
    have hVs : w.heap.size ≤ V.heap.size := by subst eV; simp; omega
    have hkV : Kept w V (fun _ => False) := by subst eV; exact ((Kept.refl w (fun _ => False)).alloc _).alloc _
    obtain ⟨v1, p1, p2, p3⟩ := id hp
    refine ⟨hp.nam HV.out.2.1 (by omega) (fun j hj => by have := hv j hj; omega), ⟨v1, p1, p2, p3, fun j hj => ?_⟩, ((HLL.out.kept hkV (fun k e => e.elim)).kept p3 (fun k e => ?_)), by have := p3.size; omega, ?_, ?_, ?_, ?_, ?_, ?_, ?_, ?_, ?_, ?_, ?_, ?_, ?_⟩
    · rcases p2 with e | ⟨q, e, hq⟩
      · exact hv j (by rw [← e]; exact hj)
      · rw [hj] at e; simp at e; omega
    · rcases e with e | e
      · omega
      · exact hv k e
    iterate 2 (refine hp.cell (p := ⟨w.heap.size, _, none⟩) ?_ (by show w.heap.size ≠ g; omega) (fun e => by have h1 := hlt.2 _ e; have : w.heap.size < w.heap.size := h1; omega); subst eV; rw [World.cell?_alloc_lt _ _ _ (by simp), cell_of_row _ _ _ _ _ _ (heap_alloc_new _ _)]; rfl)
    all_goals (refine hp.cell (p := ⟨w.heap.size + 1, _, none⟩) ?_ (by show w.heap.size + 1 ≠ g; omega) (fun e => by have h1 := hlt.2 _ e; have : w.heap.size + 1 < w.heap.size := h1; omega); subst eV; rw [cell_of_row _ _ _ _ _ _ (by have := heap_alloc_new (w.alloc (.cells #[.int .i8 8, .int .u16 0] 153)) (.cells #[.int .i8 8, .string path, .slice da data.length dc, .slice aa acl.length ac, .int .i32 ver, .bool eph, .bool seq, .int .i64 ses, .int .i32 tmo, .slice wa who.length wc, .slice oa on occ] 35 (0, 0)); simpa using this)]; rfl)
  have HE : Hid _ := eV
  have HBG : Hid (1 < B ∧ B ≤ g) := ⟨hB, hg⟩
  clear h hn hB hv eV hl
  go_enter Tryz.func139, Tryz.ntmps139
  go_wp2_with fail
  rw [← HE.out]
  refine (wInt8_any g v xs 8 _ HV.out.1 (by omega)).mono ?_
  rintro e w1 ⟨rfl, hp⟩
  have HP1 : Hid (Puts V g v (xs ++ [8 % 256]) w1) := hp
  clear hp HE
  obtain ⟨nm, _, _, _, l0, l1, r0, r1, r2, r3, r4, r5, r6, r7, r8, r9, r10⟩ := HC.out _ _ HP1.out
  go_wp2_with fail
  refine (names_any 8 0 8 _ nm (by omega)).mono ?_
  rintro e w2 ⟨rfl, b2⟩
  rw [hnm]
  have HP2 : Hid (Puts V g v (xs ++ [8 % 256]) w2) := HP1.out.later b2
  clear b2 HP1 nm l0 l1 r0 r1 r2 r3 r4 r5 r6 r7 r8 r9 r10
  obtain ⟨_, ⟨v2, iw2, nr2, kp2, vb2⟩, li2, bs2, l0, l1, r0, r1, r2, r3, r4, r5, r6, r7, r8, r9, r10⟩ := HC.out _ _ HP2.out
  have HW2 : Hid _ := And.intro iw2 (And.intro nr2 (And.intro kp2 (And.intro vb2 (And.intro li2 bs2))))
  clear iw2 nr2 kp2 vb2 li2 bs2
  go_wp2_with fail
  refine (wInt64_any g v2 _ ses _ HW2.out.1 (by have := HBD.out; have hac := acB_len acl (fun y hy => by have := HBD.out.2.2.2.1 y hy; omega); (repeat (first | rw [List.length_append] | rw [be4_length] | rw [be8_length] | rw [txt_len] | rw [List.length_singleton])); omega)).mono ?_
  rintro e w3 ⟨rfl, hp⟩
  have HP3 : Hid (Puts V g v _ w3) := Puts.next HW2.out.2.1 HW2.out.2.2.1 hp
  clear hp HW2 l0 l1 r0 r1 r2 r3 r4 r5 r6 r7 r8 r9 r10
  obtain ⟨_, ⟨v3, iw2, nr2, kp2, vb2⟩, li2, bs2, l0, l1, r0, r1, r2, r3, r4, r5, r6, r7, r8, r9, r10⟩ := HC.out _ _ HP3.out
  have HW3 : Hid _ := And.intro iw2 (And.intro nr2 (And.intro kp2 (And.intro vb2 (And.intro li2 bs2))))
  clear iw2 nr2 kp2 vb2 li2 bs2
  go_wp2_with fail
  go_end0
  refine ⟨rfl, HV.out.2.2 _ _ ?_⟩
  have hq := HP3.out
  simpa [encP, txtB] using hq

end Go.Proofs.YtldcbabgommghaaGreatDoor
