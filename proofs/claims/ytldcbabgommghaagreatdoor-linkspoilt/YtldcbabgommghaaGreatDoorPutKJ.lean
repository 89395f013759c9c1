/- What put of package txn lays of a request without Ops, kind by kind. -/
import Derived.Test.YtldcbabgommghaaGreatDoorRqLJ
import Derived.Test.YtldcbabgommghaaGreatDoorChk5J
namespace Go.Proofs.YtldcbabgommghaaGreatDoor
open Go.RowKit
set_option maxRecDepth 8000

theorem be4_length (n : Int) : (be4 n).length = 4 := rfl
theorem be8_length (n : Int) : (be8 n).length = 8 := rfl

/-- A request's bytes by what is named. -/
def encP (p d a v e z t o : Bool) (f : RqF) (more : List Int) : List Int :=
  [f.kind % 256] ++ (if p then txtB f.path else []) ++ (if d then be4 f.data.length ++ f.data else []) ++ (if a then be4 f.acl.length ++ acB f.acl else []) ++ (if v then be4 (up32 f.ver) else []) ++
    (if e then [b2i f.eph] ++ [b2i f.seq] else []) ++ (if z then be8 (up64 f.ses) else []) ++ (if t then be4 (up32 f.tmo) else []) ++ (if o then be4 f.who.length ++ idsB f.who else []) ++ more

/-- A request's lists lie in blocks below B, and are within their bounds. -/
structure Lies4 (w : World) (B : Nat) (f : RqF) (dv av wv : Value) : Prop where
  bd : bdOk f = true
  hd : Sees w dv f.data
  ha : SeesR w av 3 (f.acl.map EnD.cells)
  hw : SeesR w wv 2 (f.who.map IdD.cells)
  fd : ∀ k, liveB dv = some k → k < B
  fa : ∀ k, liveB av = some k → k < B
  fw : ∀ k, liveB wv = some k → k < B

theorem Lies4.kept {w w' : World} {S : Nat → Prop} {B : Nat} {f : RqF} {dv av wv : Value} (h : Lies4 w B f dv av wv) (hk : Kept w w' S) (hS : ∀ k, S k → B ≤ k) : Lies4 w' B f dv av wv :=
  ⟨h.bd, h.hd.keptL hk (fun k hk' e => by have := h.fd k hk'; have := hS k e; omega), h.ha.keptL hk (fun k hk' e => by have := h.fa k hk'; have := hS k e; omega), h.hw.keptL hk (fun k hk' e => by have := h.fw k hk'; have := hS k e; omega), h.fd, h.fa, h.fw⟩

theorem bdOk_inv {f : RqF} (h : bdOk f = true) : f.path.size ≤ 64 ∧ f.data.length ≤ 96 ∧ f.acl.length ≤ 4 ∧ (∀ x ∈ f.acl, x.id.scheme.size ≤ 24 ∧ x.id.name.size ≤ 24) ∧ 0 ≤ f.ses ∧ 0 ≤ f.tmo ∧ f.tmo ≤ 1000 ∧ f.who.length ≤ 4 ∧ ∀ x ∈ f.who, x.scheme.size ≤ 24 ∧ x.name.size ≤ 24 := by
  simp only [bdOk, aclOk, whoOk, Bool.and_eq_true, decide_eq_true_eq, List.all_eq_true, idOk] at h
  exact ⟨h.1.1.1.1.1.1, h.1.1.1.1.1.2, by have := h.1.1.1.1.2.1; omega, h.1.1.1.1.2.2, h.1.1.1.2, h.1.1.2, h.1.2, by have := h.2.1; omega, h.2.2⟩

set_option maxHeartbeats 4000000 in
theorem put_in1 (f : RqF) (dv av wv ov : Value) (hov : ∃ a n c, ov = .slice a n c) (B g : Nat) (v : Value) (xs : List Int) (w : World) (hk : f.kind = 1) (hl : Lies4 w B f dv av wv) (h : IsW w g v xs) (hx : xs.length ≤ 1000000000000) (hn : Nam w) (hB : 1 < B) (hg : B ≤ g) (hv : ∀ j, v.ownBlock = some j → B ≤ j) :
    Calls Tryz.prog 139 #[lay 5 320, .pointer (some ⟨g, 0, none⟩), .agg (rqCells f dv av wv ov).toArray] w fun e w' => e = .returned (.tuple #[]) ∧ Puts w g v (xs ++ encP true true true false true false false false f []) w' := by
  have m0 : bits .and .u16 55 1 = 1 := by decide
  have m1 : bits .and .u16 55 2 = 2 := by decide
  have m2 : bits .and .u16 55 4 = 4 := by decide
  have m3 : bits .and .u16 55 8 = 0 := by decide
  have m4 : bits .and .u16 55 16 = 16 := by decide
  have m5 : bits .and .u16 55 32 = 32 := by decide
  have m6 : bits .and .u16 55 64 = 0 := by decide
  have m7 : bits .and .u16 55 128 = 0 := by decide
  have m8 : bits .and .u16 55 256 = 0 := by decide
  have m9 : bits .and .u16 55 512 = 0 := by decide
  have hnm : nms 5 320 1 = 55 := by decide
  have HBD : Hid _ := bdOk_inv hl.bd
  have HLL : Hid (Lies4 w B f dv av wv) := hl
  have HLT : Hid (g < w.heap.size ∧ ∀ k, v.ownBlock = some k → k < w.heap.size) := h.lt
  obtain ⟨oa, on, occ, rfl⟩ := hov
  obtain ⟨kind, path, data, acl, ver, eph, seq, ses, tmo, who⟩ := f
  simp only at hk
  subst hk
  obtain ⟨da, dc, rfl, _⟩ := id hl.hd
  obtain ⟨aa, ac, ea, _⟩ := id hl.ha
  obtain ⟨wa, wc, ew, _⟩ := id hl.hw
  rw [List.length_map] at ea ew
  simp only at ea ew
  subst ea ew
  simp only [rqCells]
  obtain ⟨V, eV⟩ : ∃ V, V = ((w.alloc (.cells #[.int .i8 5, .int .u16 320] 153)).alloc (.cells #[.int .i8 1, .string path, .slice da data.length dc, .slice aa acl.length ac, .int .i32 ver, .bool eph, .bool seq, .int .i64 ses, .int .i32 tmo, .slice wa who.length wc, .slice oa on occ] 35)) := ⟨_, rfl⟩
  have HV : Hid (IsW V g v xs ∧ Nam V ∧ (∀ zs W, Puts V g v zs W → Puts w g v zs W)) := by
    subst eV
    exact ⟨(h.alloc _).alloc _, hn.below (two_alloc w _ _) hn.lt, fun zs W hp => hp.of_alloc.of_alloc⟩
  have HC : Hid (∀ zs W, Puts V g v zs W → Nam W ∧ (∃ v1, IsW W g v1 zs ∧ NewRow V v v1 ∧ Kept V W (fun k => k = g ∨ v.ownBlock = some k) ∧ (∀ j, v1.ownBlock = some j → B ≤ j)) ∧ Lies4 W B ⟨1, path, data, acl, ver, eph, seq, ses, tmo, who⟩ (.slice da data.length dc) (.slice aa acl.length ac) (.slice wa who.length wc) ∧ B ≤ W.heap.size ∧ W.cell? ⟨w.heap.size, 0, none⟩ = some (.int .i8 5) ∧ W.cell? ⟨w.heap.size, 1, none⟩ = some (.int .u16 320) ∧ W.cell? ⟨w.heap.size + 1, 0, none⟩ = some (.int .i8 1) ∧ W.cell? ⟨w.heap.size + 1, 1, none⟩ = some (.string path) ∧ W.cell? ⟨w.heap.size + 1, 2, none⟩ = some (.slice da data.length dc) ∧ W.cell? ⟨w.heap.size + 1, 3, none⟩ = some (.slice aa acl.length ac) ∧ W.cell? ⟨w.heap.size + 1, 4, none⟩ = some (.int .i32 ver) ∧ W.cell? ⟨w.heap.size + 1, 5, none⟩ = some (.bool eph) ∧ W.cell? ⟨w.heap.size + 1, 6, none⟩ = some (.bool seq) ∧ W.cell? ⟨w.heap.size + 1, 7, none⟩ = some (.int .i64 ses) ∧ W.cell? ⟨w.heap.size + 1, 8, none⟩ = some (.int .i32 tmo) ∧ W.cell? ⟨w.heap.size + 1, 9, none⟩ = some (.slice wa who.length wc) ∧ W.cell? ⟨w.heap.size + 1, 10, none⟩ = some (.slice oa on occ)) := by
    intro zs W hp
    have hlt := HLT.out
    have hVs : w.heap.size ≤ V.heap.size := by subst eV; simp; omega
    have hkV : Kept w V (fun _ => False) := by subst eV; exact ((Kept.refl w (fun _ => False)).alloc _).alloc _
    obtain ⟨v1, p1, p2, p3⟩ := id hp
    refine ⟨hp.nam HV.out.2.1 (by omega) (fun j hj => by have := hv j hj; omega), ⟨v1, p1, p2, p3, fun j hj => ?_⟩, ((HLL.out.kept hkV (fun k e => e.elim)).kept p3 (fun k e => ?_)), by have := p3.size; omega, ?_, ?_, ?_, ?_, ?_, ?_, ?_, ?_, ?_, ?_, ?_, ?_, ?_⟩
    · rcases p2 with e | ⟨q, e, hq⟩
      · exact hv j (by rw [← e]; exact hj)
      · rw [hj] at e; simp at e; omega
    · rcases e with e | e
      · omega
      · exact hv k e
    iterate 2 (refine hp.cell (p := ⟨w.heap.size, _, none⟩) ?_ (by show w.heap.size ≠ g; omega) (fun e => by have h1 := hlt.2 _ e; have : w.heap.size < w.heap.size := h1; omega); subst eV; rw [World.cell?_alloc_lt _ _ _ (by simp), cell_of_row _ _ _ _ _ _ (heap_alloc_new _ _)]; rfl)
    all_goals (refine hp.cell (p := ⟨w.heap.size + 1, _, none⟩) ?_ (by show w.heap.size + 1 ≠ g; omega) (fun e => by have h1 := hlt.2 _ e; have : w.heap.size + 1 < w.heap.size := h1; omega); subst eV; rw [cell_of_row _ _ _ _ _ _ (by have := heap_alloc_new (w.alloc (.cells #[.int .i8 5, .int .u16 320] 153)) (.cells #[.int .i8 1, .string path, .slice da data.length dc, .slice aa acl.length ac, .int .i32 ver, .bool eph, .bool seq, .int .i64 ses, .int .i32 tmo, .slice wa who.length wc, .slice oa on occ] 35 (0, 0)); simpa using this)]; rfl)
  have HE : Hid _ := eV
  have HBG : Hid (1 < B ∧ B ≤ g) := ⟨hB, hg⟩
  clear h hn hB hv eV hl
  go_enter Tryz.func139, Tryz.ntmps139
  go_wp2_with fail
  rw [← HE.out]
  refine (wInt8_any g v xs 1 _ HV.out.1 (by omega)).mono ?_
  rintro e w1 ⟨rfl, hp⟩
  have HP1 : Hid (Puts V g v (xs ++ [1 % 256]) w1) := hp
  clear hp HE
  obtain ⟨nm, _, _, _, l0, l1, r0, r1, r2, r3, r4, r5, r6, r7, r8, r9, r10⟩ := HC.out _ _ HP1.out
  go_wp2_with fail
  refine (names_any 5 320 1 _ nm (by omega)).mono ?_
  rintro e w2 ⟨rfl, b2⟩
  rw [hnm]
  have HP2 : Hid (Puts V g v (xs ++ [1 % 256]) w2) := HP1.out.later b2
  clear b2 HP1 nm l0 l1 r0 r1 r2 r3 r4 r5 r6 r7 r8 r9 r10
  obtain ⟨_, ⟨v2, iw2, nr2, kp2, vb2⟩, li2, bs2, l0, l1, r0, r1, r2, r3, r4, r5, r6, r7, r8, r9, r10⟩ := HC.out _ _ HP2.out
  have HW2 : Hid _ := And.intro iw2 (And.intro nr2 (And.intro kp2 (And.intro vb2 (And.intro li2 bs2))))
  clear iw2 nr2 kp2 vb2 li2 bs2
  go_wp2_with fail
  refine (wText_any g v2 _ path _ HW2.out.1 (by have := HBD.out.1; omega) (by have := HBD.out; have hac := acB_len acl (fun y hy => by have := HBD.out.2.2.2.1 y hy; omega); (repeat (first | rw [List.length_append] | rw [be4_length] | rw [be8_length] | rw [txt_len] | rw [List.length_singleton])); omega)).mono ?_
  rintro e w3 ⟨rfl, hp⟩
  have HP3 : Hid (Puts V g v _ w3) := Puts.next HW2.out.2.1 HW2.out.2.2.1 hp
  clear hp HW2 l0 l1 r0 r1 r2 r3 r4 r5 r6 r7 r8 r9 r10
  obtain ⟨_, ⟨v3, iw2, nr2, kp2, vb2⟩, li2, bs2, l0, l1, r0, r1, r2, r3, r4, r5, r6, r7, r8, r9, r10⟩ := HC.out _ _ HP3.out
  have HW3 : Hid _ := And.intro iw2 (And.intro nr2 (And.intro kp2 (And.intro vb2 (And.intro li2 bs2))))
  clear iw2 nr2 kp2 vb2 li2 bs2
  go_wp2_with fail
  refine (wBuffer_any g v3 (.slice da data.length dc) _ data _ HW3.out.1 HW3.out.2.2.2.2.1.hd (fun q hq => ⟨by have := HLL.out.fd q hq; omega, fun e => by have := HLL.out.fd q hq; have := HW3.out.2.2.2.1 q e; omega⟩) (by have := HBD.out; omega) (by have := HBD.out; have hac := acB_len acl (fun y hy => by have := HBD.out.2.2.2.1 y hy; omega); (repeat (first | rw [List.length_append] | rw [be4_length] | rw [be8_length] | rw [txt_len] | rw [List.length_singleton])); omega)).mono ?_
  rintro e w4 ⟨rfl, hp⟩
  have HP4 : Hid (Puts V g v _ w4) := Puts.next HW3.out.2.1 HW3.out.2.2.1 hp
  clear hp HW3 l0 l1 r0 r1 r2 r3 r4 r5 r6 r7 r8 r9 r10
  obtain ⟨_, ⟨v4, iw2, nr2, kp2, vb2⟩, li2, bs2, l0, l1, r0, r1, r2, r3, r4, r5, r6, r7, r8, r9, r10⟩ := HC.out _ _ HP4.out
  have HW4 : Hid _ := And.intro iw2 (And.intro nr2 (And.intro kp2 (And.intro vb2 (And.intro li2 bs2))))
  clear iw2 nr2 kp2 vb2 li2 bs2
  go_wp2_with fail
  refine (putListE_any 5 320 g v4 (.slice aa acl.length ac) _ acl _ HW4.out.1 HW4.out.2.2.2.2.1.ha (by have := HBD.out; omega) (fun y hy => by have := HBD.out.2.2.2.1 y hy; omega) (by have := HBD.out; have hac := acB_len acl (fun y hy => by have := HBD.out.2.2.2.1 y hy; omega); (repeat (first | rw [List.length_append] | rw [be4_length] | rw [be8_length] | rw [txt_len] | rw [List.length_singleton])); omega) (fun q hq => ⟨by have := HLL.out.fa q hq; omega, fun e => by have := HLL.out.fa q hq; have := HW4.out.2.2.2.1 q e; omega, by have := HLL.out.fa q hq; have := HW4.out.2.2.2.2.2; omega⟩)).mono ?_
  rintro e w5 ⟨rfl, hp⟩
  have HP5 : Hid (Puts V g v _ w5) := Puts.next HW4.out.2.1 HW4.out.2.2.1 hp
  clear hp HW4 l0 l1 r0 r1 r2 r3 r4 r5 r6 r7 r8 r9 r10
  obtain ⟨_, ⟨v5, iw2, nr2, kp2, vb2⟩, li2, bs2, l0, l1, r0, r1, r2, r3, r4, r5, r6, r7, r8, r9, r10⟩ := HC.out _ _ HP5.out
  have HW5 : Hid _ := And.intro iw2 (And.intro nr2 (And.intro kp2 (And.intro vb2 (And.intro li2 bs2))))
  clear iw2 nr2 kp2 vb2 li2 bs2
  go_wp2_with fail
  refine (wBool_any g v5 _ eph _ HW5.out.1 (by have := HBD.out; have hac := acB_len acl (fun y hy => by have := HBD.out.2.2.2.1 y hy; omega); (repeat (first | rw [List.length_append] | rw [be4_length] | rw [be8_length] | rw [txt_len] | rw [List.length_singleton])); omega)).mono ?_
  rintro e w6 ⟨rfl, hp⟩
  have HP6 : Hid (Puts V g v _ w6) := Puts.next HW5.out.2.1 HW5.out.2.2.1 hp
  clear hp HW5 l0 l1 r0 r1 r2 r3 r4 r5 r6 r7 r8 r9 r10
  obtain ⟨_, ⟨v6, iw2, nr2, kp2, vb2⟩, li2, bs2, l0, l1, r0, r1, r2, r3, r4, r5, r6, r7, r8, r9, r10⟩ := HC.out _ _ HP6.out
  have HW6 : Hid _ := And.intro iw2 (And.intro nr2 (And.intro kp2 (And.intro vb2 (And.intro li2 bs2))))
  clear iw2 nr2 kp2 vb2 li2 bs2
  go_wp2_with fail
  refine (wBool_any g v6 _ seq _ HW6.out.1 (by have := HBD.out; have hac := acB_len acl (fun y hy => by have := HBD.out.2.2.2.1 y hy; omega); (repeat (first | rw [List.length_append] | rw [be4_length] | rw [be8_length] | rw [txt_len] | rw [List.length_singleton])); omega)).mono ?_
  rintro e w7 ⟨rfl, hp⟩
  have HP7 : Hid (Puts V g v _ w7) := Puts.next HW6.out.2.1 HW6.out.2.2.1 hp
  clear hp HW6 l0 l1 r0 r1 r2 r3 r4 r5 r6 r7 r8 r9 r10
  obtain ⟨_, ⟨v7, iw2, nr2, kp2, vb2⟩, li2, bs2, l0, l1, r0, r1, r2, r3, r4, r5, r6, r7, r8, r9, r10⟩ := HC.out _ _ HP7.out
  have HW7 : Hid _ := And.intro iw2 (And.intro nr2 (And.intro kp2 (And.intro vb2 (And.intro li2 bs2))))
  clear iw2 nr2 kp2 vb2 li2 bs2
  go_wp2_with fail
  go_end0
  refine ⟨rfl, HV.out.2.2 _ _ ?_⟩
  have hq := HP7.out
  simpa [encP, txtB] using hq

set_option maxHeartbeats 4000000 in
theorem put_in2 (f : RqF) (dv av wv ov : Value) (hov : ∃ a n c, ov = .slice a n c) (B g : Nat) (v : Value) (xs : List Int) (w : World) (hk : f.kind = 2) (hl : Lies4 w B f dv av wv) (h : IsW w g v xs) (hx : xs.length ≤ 1000000000000) (hn : Nam w) (hB : 1 < B) (hg : B ≤ g) (hv : ∀ j, v.ownBlock = some j → B ≤ j) :
    Calls Tryz.prog 139 #[lay 5 320, .pointer (some ⟨g, 0, none⟩), .agg (rqCells f dv av wv ov).toArray] w fun e w' => e = .returned (.tuple #[]) ∧ Puts w g v (xs ++ encP true false false true false false false false f []) w' := by
  have m0 : bits .and .u16 9 1 = 1 := by decide
  have m1 : bits .and .u16 9 2 = 0 := by decide
  have m2 : bits .and .u16 9 4 = 0 := by decide
  have m3 : bits .and .u16 9 8 = 8 := by decide
  have m4 : bits .and .u16 9 16 = 0 := by decide
  have m5 : bits .and .u16 9 32 = 0 := by decide
  have m6 : bits .and .u16 9 64 = 0 := by decide
  have m7 : bits .and .u16 9 128 = 0 := by decide
  have m8 : bits .and .u16 9 256 = 0 := by decide
  have m9 : bits .and .u16 9 512 = 0 := by decide
  have hnm : nms 5 320 2 = 9 := by decide
  have HBD : Hid _ := bdOk_inv hl.bd
  have HLL : Hid (Lies4 w B f dv av wv) := hl
  have HLT : Hid (g < w.heap.size ∧ ∀ k, v.ownBlock = some k → k < w.heap.size) := h.lt
  obtain ⟨oa, on, occ, rfl⟩ := hov
  obtain ⟨kind, path, data, acl, ver, eph, seq, ses, tmo, who⟩ := f
  simp only at hk
  subst hk
  obtain ⟨da, dc, rfl, _⟩ := id hl.hd
  obtain ⟨aa, ac, ea, _⟩ := id hl.ha
  obtain ⟨wa, wc, ew, _⟩ := id hl.hw
  rw [List.length_map] at ea ew
  simp only at ea ew
  subst ea ew
  simp only [rqCells]
  obtain ⟨V, eV⟩ : ∃ V, V = ((w.alloc (.cells #[.int .i8 5, .int .u16 320] 153)).alloc (.cells #[.int .i8 2, .string path, .slice da data.length dc, .slice aa acl.length ac, .int .i32 ver, .bool eph, .bool seq, .int .i64 ses, .int .i32 tmo, .slice wa who.length wc, .slice oa on occ] 35)) := ⟨_, rfl⟩
  have HV : Hid (IsW V g v xs ∧ Nam V ∧ (∀ zs W, Puts V g v zs W → Puts w g v zs W)) := by
    subst eV
    exact ⟨(h.alloc _).alloc _, hn.below (two_alloc w _ _) hn.lt, fun zs W hp => hp.of_alloc.of_alloc⟩
  have HC : Hid (∀ zs W, Puts V g v zs W → Nam W ∧ (∃ v1, IsW W g v1 zs ∧ NewRow V v v1 ∧ Kept V W (fun k => k = g ∨ v.ownBlock = some k) ∧ (∀ j, v1.ownBlock = some j → B ≤ j)) ∧ Lies4 W B ⟨2, path, data, acl, ver, eph, seq, ses, tmo, who⟩ (.slice da data.length dc) (.slice aa acl.length ac) (.slice wa who.length wc) ∧ B ≤ W.heap.size ∧ W.cell? ⟨w.heap.size, 0, none⟩ = some (.int .i8 5) ∧ W.cell? ⟨w.heap.size, 1, none⟩ = some (.int .u16 320) ∧ W.cell? ⟨w.heap.size + 1, 0, none⟩ = some (.int .i8 2) ∧ W.cell? ⟨w.heap.size + 1, 1, none⟩ = some (.string path) ∧ W.cell? ⟨w.heap.size + 1, 2, none⟩ = some (.slice da data.length dc) ∧ W.cell? ⟨w.heap.size + 1, 3, none⟩ = some (.slice aa acl.length ac) ∧ W.cell? ⟨w.heap.size + 1, 4, none⟩ = some (.int .i32 ver) ∧ W.cell? ⟨w.heap.size + 1, 5, none⟩ = some (.bool eph) ∧ W.cell? ⟨w.heap.size + 1, 6, none⟩ = some (.bool seq) ∧ W.cell? ⟨w.heap.size + 1, 7, none⟩ = some (.int .i64 ses) ∧ W.cell? ⟨w.heap.size + 1, 8, none⟩ = some (.int .i32 tmo) ∧ W.cell? ⟨w.heap.size + 1, 9, none⟩ = some (.slice wa who.length wc) ∧ W.cell? ⟨w.heap.size + 1, 10, none⟩ = some (.slice oa on occ)) := by
    intro zs W hp
    have hlt := HLT.out
    have hVs : w.heap.size ≤ V.heap.size := by subst eV; simp; omega
    have hkV : Kept w V (fun _ => False) := by subst eV; exact ((Kept.refl w (fun _ => False)).alloc _).alloc _
    obtain ⟨v1, p1, p2, p3⟩ := id hp
    refine ⟨hp.nam HV.out.2.1 (by omega) (fun j hj => by have := hv j hj; omega), ⟨v1, p1, p2, p3, fun j hj => ?_⟩, ((HLL.out.kept hkV (fun k e => e.elim)).kept p3 (fun k e => ?_)), by have := p3.size; omega, ?_, ?_, ?_, ?_, ?_, ?_, ?_, ?_, ?_, ?_, ?_, ?_, ?_⟩
    · rcases p2 with e | ⟨q, e, hq⟩
      · exact hv j (by rw [← e]; exact hj)
      · rw [hj] at e; simp at e; omega
    · rcases e with e | e
      · omega
      · exact hv k e
    iterate 2 (refine hp.cell (p := ⟨w.heap.size, _, none⟩) ?_ (by show w.heap.size ≠ g; omega) (fun e => by have h1 := hlt.2 _ e; have : w.heap.size < w.heap.size := h1; omega); subst eV; rw [World.cell?_alloc_lt _ _ _ (by simp), cell_of_row _ _ _ _ _ _ (heap_alloc_new _ _)]; rfl)
    all_goals (refine hp.cell (p := ⟨w.heap.size + 1, _, none⟩) ?_ (by show w.heap.size + 1 ≠ g; omega) (fun e => by have h1 := hlt.2 _ e; have : w.heap.size + 1 < w.heap.size := h1; omega); subst eV; rw [cell_of_row _ _ _ _ _ _ (by have := heap_alloc_new (w.alloc (.cells #[.int .i8 5, .int .u16 320] 153)) (.cells #[.int .i8 2, .string path, .slice da data.length dc, .slice aa acl.length ac, .int .i32 ver, .bool eph, .bool seq, .int .i64 ses, .int .i32 tmo, .slice wa who.length wc, .slice oa on occ] 35 (0, 0)); simpa using this)]; rfl)
  have HE : Hid _ := eV
  have HBG : Hid (1 < B ∧ B ≤ g) := ⟨hB, hg⟩
  clear h hn hB hv eV hl
  go_enter Tryz.func139, Tryz.ntmps139
  go_wp2_with fail
  rw [← HE.out]
  refine (wInt8_any g v xs 2 _ HV.out.1 (by omega)).mono ?_
  rintro e w1 ⟨rfl, hp⟩
  have HP1 : Hid (Puts V g v (xs ++ [2 % 256]) w1) := hp
  clear hp HE
  obtain ⟨nm, _, _, _, l0, l1, r0, r1, r2, r3, r4, r5, r6, r7, r8, r9, r10⟩ := HC.out _ _ HP1.out
  go_wp2_with fail
  refine (names_any 5 320 2 _ nm (by omega)).mono ?_
  rintro e w2 ⟨rfl, b2⟩
  rw [hnm]
  have HP2 : Hid (Puts V g v (xs ++ [2 % 256]) w2) := HP1.out.later b2
  clear b2 HP1 nm l0 l1 r0 r1 r2 r3 r4 r5 r6 r7 r8 r9 r10
  obtain ⟨_, ⟨v2, iw2, nr2, kp2, vb2⟩, li2, bs2, l0, l1, r0, r1, r2, r3, r4, r5, r6, r7, r8, r9, r10⟩ := HC.out _ _ HP2.out
  have HW2 : Hid _ := And.intro iw2 (And.intro nr2 (And.intro kp2 (And.intro vb2 (And.intro li2 bs2))))
  clear iw2 nr2 kp2 vb2 li2 bs2
  go_wp2_with fail
  refine (wText_any g v2 _ path _ HW2.out.1 (by have := HBD.out.1; omega) (by have := HBD.out; have hac := acB_len acl (fun y hy => by have := HBD.out.2.2.2.1 y hy; omega); (repeat (first | rw [List.length_append] | rw [be4_length] | rw [be8_length] | rw [txt_len] | rw [List.length_singleton])); omega)).mono ?_
  rintro e w3 ⟨rfl, hp⟩
  have HP3 : Hid (Puts V g v _ w3) := Puts.next HW2.out.2.1 HW2.out.2.2.1 hp
  clear hp HW2 l0 l1 r0 r1 r2 r3 r4 r5 r6 r7 r8 r9 r10
  obtain ⟨_, ⟨v3, iw2, nr2, kp2, vb2⟩, li2, bs2, l0, l1, r0, r1, r2, r3, r4, r5, r6, r7, r8, r9, r10⟩ := HC.out _ _ HP3.out
  have HW3 : Hid _ := And.intro iw2 (And.intro nr2 (And.intro kp2 (And.intro vb2 (And.intro li2 bs2))))
  clear iw2 nr2 kp2 vb2 li2 bs2
  go_wp2_with fail
  refine (wInt32_any g v3 _ ver _ HW3.out.1 (by have := HBD.out; have hac := acB_len acl (fun y hy => by have := HBD.out.2.2.2.1 y hy; omega); (repeat (first | rw [List.length_append] | rw [be4_length] | rw [be8_length] | rw [txt_len] | rw [List.length_singleton])); omega)).mono ?_
  rintro e w4 ⟨rfl, hp⟩
  have HP4 : Hid (Puts V g v _ w4) := Puts.next HW3.out.2.1 HW3.out.2.2.1 hp
  clear hp HW3 l0 l1 r0 r1 r2 r3 r4 r5 r6 r7 r8 r9 r10
  obtain ⟨_, ⟨v4, iw2, nr2, kp2, vb2⟩, li2, bs2, l0, l1, r0, r1, r2, r3, r4, r5, r6, r7, r8, r9, r10⟩ := HC.out _ _ HP4.out
  have HW4 : Hid _ := And.intro iw2 (And.intro nr2 (And.intro kp2 (And.intro vb2 (And.intro li2 bs2))))
  clear iw2 nr2 kp2 vb2 li2 bs2
  go_wp2_with fail
  go_end0
  refine ⟨rfl, HV.out.2.2 _ _ ?_⟩
  have hq := HP4.out
  simpa [encP, txtB] using hq

set_option maxHeartbeats 4000000 in
theorem put_in3 (f : RqF) (dv av wv ov : Value) (hov : ∃ a n c, ov = .slice a n c) (B g : Nat) (v : Value) (xs : List Int) (w : World) (hk : f.kind = 3) (hl : Lies4 w B f dv av wv) (h : IsW w g v xs) (hx : xs.length ≤ 1000000000000) (hn : Nam w) (hB : 1 < B) (hg : B ≤ g) (hv : ∀ j, v.ownBlock = some j → B ≤ j) :
    Calls Tryz.prog 139 #[lay 5 320, .pointer (some ⟨g, 0, none⟩), .agg (rqCells f dv av wv ov).toArray] w fun e w' => e = .returned (.tuple #[]) ∧ Puts w g v (xs ++ encP true true false true false false false false f []) w' := by
  have m0 : bits .and .u16 11 1 = 1 := by decide
  have m1 : bits .and .u16 11 2 = 2 := by decide
  have m2 : bits .and .u16 11 4 = 0 := by decide
  have m3 : bits .and .u16 11 8 = 8 := by decide
  have m4 : bits .and .u16 11 16 = 0 := by decide
  have m5 : bits .and .u16 11 32 = 0 := by decide
  have m6 : bits .and .u16 11 64 = 0 := by decide
  have m7 : bits .and .u16 11 128 = 0 := by decide
  have m8 : bits .and .u16 11 256 = 0 := by decide
  have m9 : bits .and .u16 11 512 = 0 := by decide
  have hnm : nms 5 320 3 = 11 := by decide
  have HBD : Hid _ := bdOk_inv hl.bd
  have HLL : Hid (Lies4 w B f dv av wv) := hl
  have HLT : Hid (g < w.heap.size ∧ ∀ k, v.ownBlock = some k → k < w.heap.size) := h.lt
  obtain ⟨oa, on, occ, rfl⟩ := hov
  obtain ⟨kind, path, data, acl, ver, eph, seq, ses, tmo, who⟩ := f
  simp only at hk
  subst hk
  obtain ⟨da, dc, rfl, _⟩ := id hl.hd
  obtain ⟨aa, ac, ea, _⟩ := id hl.ha
  obtain ⟨wa, wc, ew, _⟩ := id hl.hw
  rw [List.length_map] at ea ew
  simp only at ea ew
  subst ea ew
  simp only [rqCells]
  obtain ⟨V, eV⟩ : ∃ V, V = ((w.alloc (.cells #[.int .i8 5, .int .u16 320] 153)).alloc (.cells #[.int .i8 3, .string path, .slice da data.length dc, .slice aa acl.length ac, .int .i32 ver, .bool eph, .bool seq, .int .i64 ses, .int .i32 tmo, .slice wa who.length wc, .slice oa on occ] 35)) := ⟨_, rfl⟩
  have HV : Hid (IsW V g v xs ∧ Nam V ∧ (∀ zs W, Puts V g v zs W → Puts w g v zs W)) := by
    subst eV
    exact ⟨(h.alloc _).alloc _, hn.below (two_alloc w _ _) hn.lt, fun zs W hp => hp.of_alloc.of_alloc⟩
  have HC : Hid (∀ zs W, Puts V g v zs W → Nam W ∧ (∃ v1, IsW W g v1 zs ∧ NewRow V v v1 ∧ Kept V W (fun k => k = g ∨ v.ownBlock = some k) ∧ (∀ j, v1.ownBlock = some j → B ≤ j)) ∧ Lies4 W B ⟨3, path, data, acl, ver, eph, seq, ses, tmo, who⟩ (.slice da data.length dc) (.slice aa acl.length ac) (.slice wa who.length wc) ∧ B ≤ W.heap.size ∧ W.cell? ⟨w.heap.size, 0, none⟩ = some (.int .i8 5) ∧ W.cell? ⟨w.heap.size, 1, none⟩ = some (.int .u16 320) ∧ W.cell? ⟨w.heap.size + 1, 0, none⟩ = some (.int .i8 3) ∧ W.cell? ⟨w.heap.size + 1, 1, none⟩ = some (.string path) ∧ W.cell? ⟨w.heap.size + 1, 2, none⟩ = some (.slice da data.length dc) ∧ W.cell? ⟨w.heap.size + 1, 3, none⟩ = some (.slice aa acl.length ac) ∧ W.cell? ⟨w.heap.size + 1, 4, none⟩ = some (.int .i32 ver) ∧ W.cell? ⟨w.heap.size + 1, 5, none⟩ = some (.bool eph) ∧ W.cell? ⟨w.heap.size + 1, 6, none⟩ = some (.bool seq) ∧ W.cell? ⟨w.heap.size + 1, 7, none⟩ = some (.int .i64 ses) ∧ W.cell? ⟨w.heap.size + 1, 8, none⟩ = some (.int .i32 tmo) ∧ W.cell? ⟨w.heap.size + 1, 9, none⟩ = some (.slice wa who.length wc) ∧ W.cell? ⟨w.heap.size + 1, 10, none⟩ = some (.slice oa on occ)) := by
    intro zs W hp
    have hlt := HLT.out
    have hVs : w.heap.size ≤ V.heap.size := by subst eV; simp; omega
    have hkV : Kept w V (fun _ => False) := by subst eV; exact ((Kept.refl w (fun _ => False)).alloc _).alloc _
    obtain ⟨v1, p1, p2, p3⟩ := id hp
    refine ⟨hp.nam HV.out.2.1 (by omega) (fun j hj => by have := hv j hj; omega), ⟨v1, p1, p2, p3, fun j hj => ?_⟩, ((HLL.out.kept hkV (fun k e => e.elim)).kept p3 (fun k e => ?_)), by have := p3.size; omega, ?_, ?_, ?_, ?_, ?_, ?_, ?_, ?_, ?_, ?_, ?_, ?_, ?_⟩
    · rcases p2 with e | ⟨q, e, hq⟩
      · exact hv j (by rw [← e]; exact hj)
      · rw [hj] at e; simp at e; omega
    · rcases e with e | e
      · omega
      · exact hv k e
    iterate 2 (refine hp.cell (p := ⟨w.heap.size, _, none⟩) ?_ (by show w.heap.size ≠ g; omega) (fun e => by have h1 := hlt.2 _ e; have : w.heap.size < w.heap.size := h1; omega); subst eV; rw [World.cell?_alloc_lt _ _ _ (by simp), cell_of_row _ _ _ _ _ _ (heap_alloc_new _ _)]; rfl)
    all_goals (refine hp.cell (p := ⟨w.heap.size + 1, _, none⟩) ?_ (by show w.heap.size + 1 ≠ g; omega) (fun e => by have h1 := hlt.2 _ e; have : w.heap.size + 1 < w.heap.size := h1; omega); subst eV; rw [cell_of_row _ _ _ _ _ _ (by have := heap_alloc_new (w.alloc (.cells #[.int .i8 5, .int .u16 320] 153)) (.cells #[.int .i8 3, .string path, .slice da data.length dc, .slice aa acl.length ac, .int .i32 ver, .bool eph, .bool seq, .int .i64 ses, .int .i32 tmo, .slice wa who.length wc, .slice oa on occ] 35 (0, 0)); simpa using this)]; rfl)
  have HE : Hid _ := eV
  have HBG : Hid (1 < B ∧ B ≤ g) := ⟨hB, hg⟩
  clear h hn hB hv eV hl
  go_enter Tryz.func139, Tryz.ntmps139
  go_wp2_with fail
  rw [← HE.out]
  refine (wInt8_any g v xs 3 _ HV.out.1 (by omega)).mono ?_
  rintro e w1 ⟨rfl, hp⟩
  have HP1 : Hid (Puts V g v (xs ++ [3 % 256]) w1) := hp
  clear hp HE
  obtain ⟨nm, _, _, _, l0, l1, r0, r1, r2, r3, r4, r5, r6, r7, r8, r9, r10⟩ := HC.out _ _ HP1.out
  go_wp2_with fail
  refine (names_any 5 320 3 _ nm (by omega)).mono ?_
  rintro e w2 ⟨rfl, b2⟩
  rw [hnm]
  have HP2 : Hid (Puts V g v (xs ++ [3 % 256]) w2) := HP1.out.later b2
  clear b2 HP1 nm l0 l1 r0 r1 r2 r3 r4 r5 r6 r7 r8 r9 r10
  obtain ⟨_, ⟨v2, iw2, nr2, kp2, vb2⟩, li2, bs2, l0, l1, r0, r1, r2, r3, r4, r5, r6, r7, r8, r9, r10⟩ := HC.out _ _ HP2.out
  have HW2 : Hid _ := And.intro iw2 (And.intro nr2 (And.intro kp2 (And.intro vb2 (And.intro li2 bs2))))
  clear iw2 nr2 kp2 vb2 li2 bs2
  go_wp2_with fail
  refine (wText_any g v2 _ path _ HW2.out.1 (by have := HBD.out.1; omega) (by have := HBD.out; have hac := acB_len acl (fun y hy => by have := HBD.out.2.2.2.1 y hy; omega); (repeat (first | rw [List.length_append] | rw [be4_length] | rw [be8_length] | rw [txt_len] | rw [List.length_singleton])); omega)).mono ?_
  rintro e w3 ⟨rfl, hp⟩
  have HP3 : Hid (Puts V g v _ w3) := Puts.next HW2.out.2.1 HW2.out.2.2.1 hp
  clear hp HW2 l0 l1 r0 r1 r2 r3 r4 r5 r6 r7 r8 r9 r10
  obtain ⟨_, ⟨v3, iw2, nr2, kp2, vb2⟩, li2, bs2, l0, l1, r0, r1, r2, r3, r4, r5, r6, r7, r8, r9, r10⟩ := HC.out _ _ HP3.out
  have HW3 : Hid _ := And.intro iw2 (And.intro nr2 (And.intro kp2 (And.intro vb2 (And.intro li2 bs2))))
  clear iw2 nr2 kp2 vb2 li2 bs2
  go_wp2_with fail
  refine (wBuffer_any g v3 (.slice da data.length dc) _ data _ HW3.out.1 HW3.out.2.2.2.2.1.hd (fun q hq => ⟨by have := HLL.out.fd q hq; omega, fun e => by have := HLL.out.fd q hq; have := HW3.out.2.2.2.1 q e; omega⟩) (by have := HBD.out; omega) (by have := HBD.out; have hac := acB_len acl (fun y hy => by have := HBD.out.2.2.2.1 y hy; omega); (repeat (first | rw [List.length_append] | rw [be4_length] | rw [be8_length] | rw [txt_len] | rw [List.length_singleton])); omega)).mono ?_
  rintro e w4 ⟨rfl, hp⟩
  have HP4 : Hid (Puts V g v _ w4) := Puts.next HW3.out.2.1 HW3.out.2.2.1 hp
  clear hp HW3 l0 l1 r0 r1 r2 r3 r4 r5 r6 r7 r8 r9 r10
  obtain ⟨_, ⟨v4, iw2, nr2, kp2, vb2⟩, li2, bs2, l0, l1, r0, r1, r2, r3, r4, r5, r6, r7, r8, r9, r10⟩ := HC.out _ _ HP4.out
  have HW4 : Hid _ := And.intro iw2 (And.intro nr2 (And.intro kp2 (And.intro vb2 (And.intro li2 bs2))))
  clear iw2 nr2 kp2 vb2 li2 bs2
  go_wp2_with fail
  refine (wInt32_any g v4 _ ver _ HW4.out.1 (by have := HBD.out; have hac := acB_len acl (fun y hy => by have := HBD.out.2.2.2.1 y hy; omega); (repeat (first | rw [List.length_append] | rw [be4_length] | rw [be8_length] | rw [txt_len] | rw [List.length_singleton])); omega)).mono ?_
  rintro e w5 ⟨rfl, hp⟩
  have HP5 : Hid (Puts V g v _ w5) := Puts.next HW4.out.2.1 HW4.out.2.2.1 hp
  clear hp HW4 l0 l1 r0 r1 r2 r3 r4 r5 r6 r7 r8 r9 r10
  obtain ⟨_, ⟨v5, iw2, nr2, kp2, vb2⟩, li2, bs2, l0, l1, r0, r1, r2, r3, r4, r5, r6, r7, r8, r9, r10⟩ := HC.out _ _ HP5.out
  have HW5 : Hid _ := And.intro iw2 (And.intro nr2 (And.intro kp2 (And.intro vb2 (And.intro li2 bs2))))
  clear iw2 nr2 kp2 vb2 li2 bs2
  go_wp2_with fail
  go_end0
  refine ⟨rfl, HV.out.2.2 _ _ ?_⟩
  have hq := HP5.out
  simpa [encP, txtB] using hq

set_option maxHeartbeats 4000000 in
theorem put_in4 (f : RqF) (dv av wv ov : Value) (hov : ∃ a n c, ov = .slice a n c) (B g : Nat) (v : Value) (xs : List Int) (w : World) (hk : f.kind = 4) (hl : Lies4 w B f dv av wv) (h : IsW w g v xs) (hx : xs.length ≤ 1000000000000) (hn : Nam w) (hB : 1 < B) (hg : B ≤ g) (hv : ∀ j, v.ownBlock = some j → B ≤ j) :
    Calls Tryz.prog 139 #[lay 5 320, .pointer (some ⟨g, 0, none⟩), .agg (rqCells f dv av wv ov).toArray] w fun e w' => e = .returned (.tuple #[]) ∧ Puts w g v (xs ++ encP true false true true false false false false f []) w' := by
  have m0 : bits .and .u16 13 1 = 1 := by decide
  have m1 : bits .and .u16 13 2 = 0 := by decide
  have m2 : bits .and .u16 13 4 = 4 := by decide
  have m3 : bits .and .u16 13 8 = 8 := by decide
  have m4 : bits .and .u16 13 16 = 0 := by decide
  have m5 : bits .and .u16 13 32 = 0 := by decide
  have m6 : bits .and .u16 13 64 = 0 := by decide
  have m7 : bits .and .u16 13 128 = 0 := by decide
  have m8 : bits .and .u16 13 256 = 0 := by decide
  have m9 : bits .and .u16 13 512 = 0 := by decide
  have hnm : nms 5 320 4 = 13 := by decide
  have HBD : Hid _ := bdOk_inv hl.bd
  have HLL : Hid (Lies4 w B f dv av wv) := hl
  have HLT : Hid (g < w.heap.size ∧ ∀ k, v.ownBlock = some k → k < w.heap.size) := h.lt
  obtain ⟨oa, on, occ, rfl⟩ := hov
  obtain ⟨kind, path, data, acl, ver, eph, seq, ses, tmo, who⟩ := f
  simp only at hk
  subst hk
  obtain ⟨da, dc, rfl, _⟩ := id hl.hd
  obtain ⟨aa, ac, ea, _⟩ := id hl.ha
  obtain ⟨wa, wc, ew, _⟩ := id hl.hw
  rw [List.length_map] at ea ew
  simp only at ea ew
  subst ea ew
  simp only [rqCells]
  obtain ⟨V, eV⟩ : ∃ V, V = ((w.alloc (.cells #[.int .i8 5, .int .u16 320] 153)).alloc (.cells #[.int .i8 4, .string path, .slice da data.length dc, .slice aa acl.length ac, .int .i32 ver, .bool eph, .bool seq, .int .i64 ses, .int .i32 tmo, .slice wa who.length wc, .slice oa on occ] 35)) := ⟨_, rfl⟩
  have HV : Hid (IsW V g v xs ∧ Nam V ∧ (∀ zs W, Puts V g v zs W → Puts w g v zs W)) := by
    subst eV
    exact ⟨(h.alloc _).alloc _, hn.below (two_alloc w _ _) hn.lt, fun zs W hp => hp.of_alloc.of_alloc⟩
  have HC : Hid (∀ zs W, Puts V g v zs W → Nam W ∧ (∃ v1, IsW W g v1 zs ∧ NewRow V v v1 ∧ Kept V W (fun k => k = g ∨ v.ownBlock = some k) ∧ (∀ j, v1.ownBlock = some j → B ≤ j)) ∧ Lies4 W B ⟨4, path, data, acl, ver, eph, seq, ses, tmo, who⟩ (.slice da data.length dc) (.slice aa acl.length ac) (.slice wa who.length wc) ∧ B ≤ W.heap.size ∧ W.cell? ⟨w.heap.size, 0, none⟩ = some (.int .i8 5) ∧ W.cell? ⟨w.heap.size, 1, none⟩ = some (.int .u16 320) ∧ W.cell? ⟨w.heap.size + 1, 0, none⟩ = some (.int .i8 4) ∧ W.cell? ⟨w.heap.size + 1, 1, none⟩ = some (.string path) ∧ W.cell? ⟨w.heap.size + 1, 2, none⟩ = some (.slice da data.length dc) ∧ W.cell? ⟨w.heap.size + 1, 3, none⟩ = some (.slice aa acl.length ac) ∧ W.cell? ⟨w.heap.size + 1, 4, none⟩ = some (.int .i32 ver) ∧ W.cell? ⟨w.heap.size + 1, 5, none⟩ = some (.bool eph) ∧ W.cell? ⟨w.heap.size + 1, 6, none⟩ = some (.bool seq) ∧ W.cell? ⟨w.heap.size + 1, 7, none⟩ = some (.int .i64 ses) ∧ W.cell? ⟨w.heap.size + 1, 8, none⟩ = some (.int .i32 tmo) ∧ W.cell? ⟨w.heap.size + 1, 9, none⟩ = some (.slice wa who.length wc) ∧ W.cell? ⟨w.heap.size + 1, 10, none⟩ = some (.slice oa on occ)) := by
    intro zs W hp
    have hlt := HLT.out
    have hVs : w.heap.size ≤ V.heap.size := by subst eV; simp; omega
    have hkV : Kept w V (fun _ => False) := by subst eV; exact ((Kept.refl w (fun _ => False)).alloc _).alloc _
    obtain ⟨v1, p1, p2, p3⟩ := id hp
    refine ⟨hp.nam HV.out.2.1 (by omega) (fun j hj => by have := hv j hj; omega), ⟨v1, p1, p2, p3, fun j hj => ?_⟩, ((HLL.out.kept hkV (fun k e => e.elim)).kept p3 (fun k e => ?_)), by have := p3.size; omega, ?_, ?_, ?_, ?_, ?_, ?_, ?_, ?_, ?_, ?_, ?_, ?_, ?_⟩
    · rcases p2 with e | ⟨q, e, hq⟩
      · exact hv j (by rw [← e]; exact hj)
      · rw [hj] at e; simp at e; omega
    · rcases e with e | e
      · omega
      · exact hv k e
    iterate 2 (refine hp.cell (p := ⟨w.heap.size, _, none⟩) ?_ (by show w.heap.size ≠ g; omega) (fun e => by have h1 := hlt.2 _ e; have : w.heap.size < w.heap.size := h1; omega); subst eV; rw [World.cell?_alloc_lt _ _ _ (by simp), cell_of_row _ _ _ _ _ _ (heap_alloc_new _ _)]; rfl)
    all_goals (refine hp.cell (p := ⟨w.heap.size + 1, _, none⟩) ?_ (by show w.heap.size + 1 ≠ g; omega) (fun e => by have h1 := hlt.2 _ e; have : w.heap.size + 1 < w.heap.size := h1; omega); subst eV; rw [cell_of_row _ _ _ _ _ _ (by have := heap_alloc_new (w.alloc (.cells #[.int .i8 5, .int .u16 320] 153)) (.cells #[.int .i8 4, .string path, .slice da data.length dc, .slice aa acl.length ac, .int .i32 ver, .bool eph, .bool seq, .int .i64 ses, .int .i32 tmo, .slice wa who.length wc, .slice oa on occ] 35 (0, 0)); simpa using this)]; rfl)
  have HE : Hid _ := eV
  have HBG : Hid (1 < B ∧ B ≤ g) := ⟨hB, hg⟩
  clear h hn hB hv eV hl
  go_enter Tryz.func139, Tryz.ntmps139
  go_wp2_with fail
  rw [← HE.out]
  refine (wInt8_any g v xs 4 _ HV.out.1 (by omega)).mono ?_
  rintro e w1 ⟨rfl, hp⟩
  have HP1 : Hid (Puts V g v (xs ++ [4 % 256]) w1) := hp
  clear hp HE
  obtain ⟨nm, _, _, _, l0, l1, r0, r1, r2, r3, r4, r5, r6, r7, r8, r9, r10⟩ := HC.out _ _ HP1.out
  go_wp2_with fail
  refine (names_any 5 320 4 _ nm (by omega)).mono ?_
  rintro e w2 ⟨rfl, b2⟩
  rw [hnm]
  have HP2 : Hid (Puts V g v (xs ++ [4 % 256]) w2) := HP1.out.later b2
  clear b2 HP1 nm l0 l1 r0 r1 r2 r3 r4 r5 r6 r7 r8 r9 r10
  obtain ⟨_, ⟨v2, iw2, nr2, kp2, vb2⟩, li2, bs2, l0, l1, r0, r1, r2, r3, r4, r5, r6, r7, r8, r9, r10⟩ := HC.out _ _ HP2.out
  have HW2 : Hid _ := And.intro iw2 (And.intro nr2 (And.intro kp2 (And.intro vb2 (And.intro li2 bs2))))
  clear iw2 nr2 kp2 vb2 li2 bs2
  go_wp2_with fail
  refine (wText_any g v2 _ path _ HW2.out.1 (by have := HBD.out.1; omega) (by have := HBD.out; have hac := acB_len acl (fun y hy => by have := HBD.out.2.2.2.1 y hy; omega); (repeat (first | rw [List.length_append] | rw [be4_length] | rw [be8_length] | rw [txt_len] | rw [List.length_singleton])); omega)).mono ?_
  rintro e w3 ⟨rfl, hp⟩
  have HP3 : Hid (Puts V g v _ w3) := Puts.next HW2.out.2.1 HW2.out.2.2.1 hp
  clear hp HW2 l0 l1 r0 r1 r2 r3 r4 r5 r6 r7 r8 r9 r10
  obtain ⟨_, ⟨v3, iw2, nr2, kp2, vb2⟩, li2, bs2, l0, l1, r0, r1, r2, r3, r4, r5, r6, r7, r8, r9, r10⟩ := HC.out _ _ HP3.out
  have HW3 : Hid _ := And.intro iw2 (And.intro nr2 (And.intro kp2 (And.intro vb2 (And.intro li2 bs2))))
  clear iw2 nr2 kp2 vb2 li2 bs2
  go_wp2_with fail
  refine (putListE_any 5 320 g v3 (.slice aa acl.length ac) _ acl _ HW3.out.1 HW3.out.2.2.2.2.1.ha (by have := HBD.out; omega) (fun y hy => by have := HBD.out.2.2.2.1 y hy; omega) (by have := HBD.out; have hac := acB_len acl (fun y hy => by have := HBD.out.2.2.2.1 y hy; omega); (repeat (first | rw [List.length_append] | rw [be4_length] | rw [be8_length] | rw [txt_len] | rw [List.length_singleton])); omega) (fun q hq => ⟨by have := HLL.out.fa q hq; omega, fun e => by have := HLL.out.fa q hq; have := HW3.out.2.2.2.1 q e; omega, by have := HLL.out.fa q hq; have := HW3.out.2.2.2.2.2; omega⟩)).mono ?_
  rintro e w4 ⟨rfl, hp⟩
  have HP4 : Hid (Puts V g v _ w4) := Puts.next HW3.out.2.1 HW3.out.2.2.1 hp
  clear hp HW3 l0 l1 r0 r1 r2 r3 r4 r5 r6 r7 r8 r9 r10
  obtain ⟨_, ⟨v4, iw2, nr2, kp2, vb2⟩, li2, bs2, l0, l1, r0, r1, r2, r3, r4, r5, r6, r7, r8, r9, r10⟩ := HC.out _ _ HP4.out
  have HW4 : Hid _ := And.intro iw2 (And.intro nr2 (And.intro kp2 (And.intro vb2 (And.intro li2 bs2))))
  clear iw2 nr2 kp2 vb2 li2 bs2
  go_wp2_with fail
  refine (wInt32_any g v4 _ ver _ HW4.out.1 (by have := HBD.out; have hac := acB_len acl (fun y hy => by have := HBD.out.2.2.2.1 y hy; omega); (repeat (first | rw [List.length_append] | rw [be4_length] | rw [be8_length] | rw [txt_len] | rw [List.length_singleton])); omega)).mono ?_
  rintro e w5 ⟨rfl, hp⟩
  have HP5 : Hid (Puts V g v _ w5) := Puts.next HW4.out.2.1 HW4.out.2.2.1 hp
  clear hp HW4 l0 l1 r0 r1 r2 r3 r4 r5 r6 r7 r8 r9 r10
  obtain ⟨_, ⟨v5, iw2, nr2, kp2, vb2⟩, li2, bs2, l0, l1, r0, r1, r2, r3, r4, r5, r6, r7, r8, r9, r10⟩ := HC.out _ _ HP5.out
  have HW5 : Hid _ := And.intro iw2 (And.intro nr2 (And.intro kp2 (And.intro vb2 (And.intro li2 bs2))))
  clear iw2 nr2 kp2 vb2 li2 bs2
  go_wp2_with fail
  go_end0
  refine ⟨rfl, HV.out.2.2 _ _ ?_⟩
  have hq := HP5.out
  simpa [encP, txtB] using hq

set_option maxHeartbeats 4000000 in
theorem put_in5 (f : RqF) (dv av wv ov : Value) (hov : ∃ a n c, ov = .slice a n c) (B g : Nat) (v : Value) (xs : List Int) (w : World) (hk : f.kind = 5) (hl : Lies4 w B f dv av wv) (h : IsW w g v xs) (hx : xs.length ≤ 1000000000000) (hn : Nam w) (hB : 1 < B) (hg : B ≤ g) (hv : ∀ j, v.ownBlock = some j → B ≤ j) :
    Calls Tryz.prog 139 #[lay 5 320, .pointer (some ⟨g, 0, none⟩), .agg (rqCells f dv av wv ov).toArray] w fun e w' => e = .returned (.tuple #[]) ∧ Puts w g v (xs ++ encP true false false true false false false false f []) w' := by
  have m0 : bits .and .u16 9 1 = 1 := by decide
  have m1 : bits .and .u16 9 2 = 0 := by decide
  have m2 : bits .and .u16 9 4 = 0 := by decide
  have m3 : bits .and .u16 9 8 = 8 := by decide
  have m4 : bits .and .u16 9 16 = 0 := by decide
  have m5 : bits .and .u16 9 32 = 0 := by decide
  have m6 : bits .and .u16 9 64 = 0 := by decide
  have m7 : bits .and .u16 9 128 = 0 := by decide
  have m8 : bits .and .u16 9 256 = 0 := by decide
  have m9 : bits .and .u16 9 512 = 0 := by decide
  have hnm : nms 5 320 5 = 9 := by decide
  have HBD : Hid _ := bdOk_inv hl.bd
  have HLL : Hid (Lies4 w B f dv av wv) := hl
  have HLT : Hid (g < w.heap.size ∧ ∀ k, v.ownBlock = some k → k < w.heap.size) := h.lt
  obtain ⟨oa, on, occ, rfl⟩ := hov
  obtain ⟨kind, path, data, acl, ver, eph, seq, ses, tmo, who⟩ := f
  simp only at hk
  subst hk
  obtain ⟨da, dc, rfl, _⟩ := id hl.hd
  obtain ⟨aa, ac, ea, _⟩ := id hl.ha
  obtain ⟨wa, wc, ew, _⟩ := id hl.hw
  rw [List.length_map] at ea ew
  simp only at ea ew
  subst ea ew
  simp only [rqCells]
  obtain ⟨V, eV⟩ : ∃ V, V = ((w.alloc (.cells #[.int .i8 5, .int .u16 320] 153)).alloc (.cells #[.int .i8 5, .string path, .slice da data.length dc, .slice aa acl.length ac, .int .i32 ver, .bool eph, .bool seq, .int .i64 ses, .int .i32 tmo, .slice wa who.length wc, .slice oa on occ] 35)) := ⟨_, rfl⟩
  have HV : Hid (IsW V g v xs ∧ Nam V ∧ (∀ zs W, Puts V g v zs W → Puts w g v zs W)) := by
    subst eV
    exact ⟨(h.alloc _).alloc _, hn.below (two_alloc w _ _) hn.lt, fun zs W hp => hp.of_alloc.of_alloc⟩
  have HC : Hid (∀ zs W, Puts V g v zs W → Nam W ∧ (∃ v1, IsW W g v1 zs ∧ NewRow V v v1 ∧ Kept V W (fun k => k = g ∨ v.ownBlock = some k) ∧ (∀ j, v1.ownBlock = some j → B ≤ j)) ∧ Lies4 W B ⟨5, path, data, acl, ver, eph, seq, ses, tmo, who⟩ (.slice da data.length dc) (.slice aa acl.length ac) (.slice wa who.length wc) ∧ B ≤ W.heap.size ∧ W.cell? ⟨w.heap.size, 0, none⟩ = some (.int .i8 5) ∧ W.cell? ⟨w.heap.size, 1, none⟩ = some (.int .u16 320) ∧ W.cell? ⟨w.heap.size + 1, 0, none⟩ = some (.int .i8 5) ∧ W.cell? ⟨w.heap.size + 1, 1, none⟩ = some (.string path) ∧ W.cell? ⟨w.heap.size + 1, 2, none⟩ = some (.slice da data.length dc) ∧ W.cell? ⟨w.heap.size + 1, 3, none⟩ = some (.slice aa acl.length ac) ∧ W.cell? ⟨w.heap.size + 1, 4, none⟩ = some (.int .i32 ver) ∧ W.cell? ⟨w.heap.size + 1, 5, none⟩ = some (.bool eph) ∧ W.cell? ⟨w.heap.size + 1, 6, none⟩ = some (.bool seq) ∧ W.cell? ⟨w.heap.size + 1, 7, none⟩ = some (.int .i64 ses) ∧ W.cell? ⟨w.heap.size + 1, 8, none⟩ = some (.int .i32 tmo) ∧ W.cell? ⟨w.heap.size + 1, 9, none⟩ = some (.slice wa who.length wc) ∧ W.cell? ⟨w.heap.size + 1, 10, none⟩ = some (.slice oa on occ)) := by
    intro zs W hp
    have hlt := HLT.out
    have hVs : w.heap.size ≤ V.heap.size := by subst eV; simp; omega
    have hkV : Kept w V (fun _ => False) := by subst eV; exact ((Kept.refl w (fun _ => False)).alloc _).alloc _
    obtain ⟨v1, p1, p2, p3⟩ := id hp
    refine ⟨hp.nam HV.out.2.1 (by omega) (fun j hj => by have := hv j hj; omega), ⟨v1, p1, p2, p3, fun j hj => ?_⟩, ((HLL.out.kept hkV (fun k e => e.elim)).kept p3 (fun k e => ?_)), by have := p3.size; omega, ?_, ?_, ?_, ?_, ?_, ?_, ?_, ?_, ?_, ?_, ?_, ?_, ?_⟩
    · rcases p2 with e | ⟨q, e, hq⟩
      · exact hv j (by rw [← e]; exact hj)
      · rw [hj] at e; simp at e; omega
    · rcases e with e | e
      · omega
      · exact hv k e
    iterate 2 (refine hp.cell (p := ⟨w.heap.size, _, none⟩) ?_ (by show w.heap.size ≠ g; omega) (fun e => by have h1 := hlt.2 _ e; have : w.heap.size < w.heap.size := h1; omega); subst eV; rw [World.cell?_alloc_lt _ _ _ (by simp), cell_of_row _ _ _ _ _ _ (heap_alloc_new _ _)]; rfl)
    all_goals (refine hp.cell (p := ⟨w.heap.size + 1, _, none⟩) ?_ (by show w.heap.size + 1 ≠ g; omega) (fun e => by have h1 := hlt.2 _ e; have : w.heap.size + 1 < w.heap.size := h1; omega); subst eV; rw [cell_of_row _ _ _ _ _ _ (by have := heap_alloc_new (w.alloc (.cells #[.int .i8 5, .int .u16 320] 153)) (.cells #[.int .i8 5, .string path, .slice da data.length dc, .slice aa acl.length ac, .int .i32 ver, .bool eph, .bool seq, .int .i64 ses, .int .i32 tmo, .slice wa who.length wc, .slice oa on occ] 35 (0, 0)); simpa using this)]; rfl)
  have HE : Hid _ := eV
  have HBG : Hid (1 < B ∧ B ≤ g) := ⟨hB, hg⟩
  clear h hn hB hv eV hl
  go_enter Tryz.func139, Tryz.ntmps139
  go_wp2_with fail
  rw [← HE.out]
  refine (wInt8_any g v xs 5 _ HV.out.1 (by omega)).mono ?_
  rintro e w1 ⟨rfl, hp⟩
  have HP1 : Hid (Puts V g v (xs ++ [5 % 256]) w1) := hp
  clear hp HE
  obtain ⟨nm, _, _, _, l0, l1, r0, r1, r2, r3, r4, r5, r6, r7, r8, r9, r10⟩ := HC.out _ _ HP1.out
  go_wp2_with fail
  refine (names_any 5 320 5 _ nm (by omega)).mono ?_
  rintro e w2 ⟨rfl, b2⟩
  rw [hnm]
  have HP2 : Hid (Puts V g v (xs ++ [5 % 256]) w2) := HP1.out.later b2
  clear b2 HP1 nm l0 l1 r0 r1 r2 r3 r4 r5 r6 r7 r8 r9 r10
  obtain ⟨_, ⟨v2, iw2, nr2, kp2, vb2⟩, li2, bs2, l0, l1, r0, r1, r2, r3, r4, r5, r6, r7, r8, r9, r10⟩ := HC.out _ _ HP2.out
  have HW2 : Hid _ := And.intro iw2 (And.intro nr2 (And.intro kp2 (And.intro vb2 (And.intro li2 bs2))))
  clear iw2 nr2 kp2 vb2 li2 bs2
  go_wp2_with fail
  refine (wText_any g v2 _ path _ HW2.out.1 (by have := HBD.out.1; omega) (by have := HBD.out; have hac := acB_len acl (fun y hy => by have := HBD.out.2.2.2.1 y hy; omega); (repeat (first | rw [List.length_append] | rw [be4_length] | rw [be8_length] | rw [txt_len] | rw [List.length_singleton])); omega)).mono ?_
  rintro e w3 ⟨rfl, hp⟩
  have HP3 : Hid (Puts V g v _ w3) := Puts.next HW2.out.2.1 HW2.out.2.2.1 hp
  clear hp HW2 l0 l1 r0 r1 r2 r3 r4 r5 r6 r7 r8 r9 r10
  obtain ⟨_, ⟨v3, iw2, nr2, kp2, vb2⟩, li2, bs2, l0, l1, r0, r1, r2, r3, r4, r5, r6, r7, r8, r9, r10⟩ := HC.out _ _ HP3.out
  have HW3 : Hid _ := And.intro iw2 (And.intro nr2 (And.intro kp2 (And.intro vb2 (And.intro li2 bs2))))
  clear iw2 nr2 kp2 vb2 li2 bs2
  go_wp2_with fail
  refine (wInt32_any g v3 _ ver _ HW3.out.1 (by have := HBD.out; have hac := acB_len acl (fun y hy => by have := HBD.out.2.2.2.1 y hy; omega); (repeat (first | rw [List.length_append] | rw [be4_length] | rw [be8_length] | rw [txt_len] | rw [List.length_singleton])); omega)).mono ?_
  rintro e w4 ⟨rfl, hp⟩
  have HP4 : Hid (Puts V g v _ w4) := Puts.next HW3.out.2.1 HW3.out.2.2.1 hp
  clear hp HW3 l0 l1 r0 r1 r2 r3 r4 r5 r6 r7 r8 r9 r10
  obtain ⟨_, ⟨v4, iw2, nr2, kp2, vb2⟩, li2, bs2, l0, l1, r0, r1, r2, r3, r4, r5, r6, r7, r8, r9, r10⟩ := HC.out _ _ HP4.out
  have HW4 : Hid _ := And.intro iw2 (And.intro nr2 (And.intro kp2 (And.intro vb2 (And.intro li2 bs2))))
  clear iw2 nr2 kp2 vb2 li2 bs2
  go_wp2_with fail
  go_end0
  refine ⟨rfl, HV.out.2.2 _ _ ?_⟩
  have hq := HP4.out
  simpa [encP, txtB] using hq

end Go.Proofs.YtldcbabgommghaaGreatDoor
