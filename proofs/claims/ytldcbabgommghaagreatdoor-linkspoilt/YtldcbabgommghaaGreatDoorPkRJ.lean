/- parsed of package packet, of bytes that were laid. -/
import Derived.Test.YtldcbabgommghaaGreatDoorPkQJ
namespace Go.Proofs.YtldcbabgommghaaGreatDoor
open Go.RowKit
set_option maxRecDepth 8000

theorem get_any (j : Nat) (p : PkD) (g q r : Nat) (v : Value) (d : PkD) (tc : List Value) (bv : Value) (rest : List Int) (w : World) (hg : p.good) (hr : rgB j p = true) (hn : Nam w) (hng : 1 < g) (hrl : r < w.heap.size) (h : IsR w g v (fdB j p ++ rest) 0) (hb : Byts (fdB j p ++ rest)) (hi : InPk w g q r tc bv d) (hgq : g ≠ q) (hv : ∀ k, v.ownBlock = some k → k ≠ q ∧ r < k) :
    Calls Tryz.prog (fGt j) #[.pointer (some ⟨g, 0, none⟩), .pointer (some ⟨q, 0, none⟩)] w fun e w' => e = .returned (.tuple #[]) ∧ Gets w g q r v (setF j p d) rest w' := by
  match j with
  | 0 => exact gt0 p g q r v d tc bv rest w h hb hi hgq hv
  | 1 => exact gt1 p g q r v d tc bv rest w h hb hi hgq hv
  | 2 => exact gt2 p g q r v d tc bv rest w hg h hb hi hgq hv
  | 3 => exact gt3 p g q r v d tc bv rest w h hb hi hgq hv
  | 4 => exact gt4 p g q r v d tc bv rest w h hb hi hgq hv
  | 5 => exact gt5 p g q r v d tc bv rest w h hb hi hgq hv
  | 6 => exact gt6 p g q r v d tc bv rest w h hb hi hgq hv
  | 7 => exact gt7 p g q r v d tc bv rest w h hb hi hgq hv
  | 8 => exact gt8 p g q r v d tc bv rest w h hb hi hgq hv
  | 9 => exact gt9 p g q r v d tc bv rest w hrl (by have h : txB15 p = true := hr; unfold txB15 at h; rw [Bool.and_eq_true] at h; exact h.1) hg hn hng h hb hi hgq hv
  | 10 => exact gt10 p g q r v d tc bv rest w (by have h : decide (1 ≤ p.bys.length ∧ p.bys.length ≤ 4096) = true := hr; exact (of_decide_eq_true h).2) h hb hi hgq hv
  | _ + 11 => exact gt11 p g q r v d tc bv rest w hg h hb hi hgq hv

abbrev zPk (k : Int) : Array Value := #[.int .i8 k, .int .u32 0, .int .u32 0, .int .u32 0, .int .u32 0, .int .i64 0, .int .u32 0, .int .u32 0, .int .u32 0, .int .u32 0, .int .u32 0, .int .u32 0, .bool false, .bool false, .int .u32 0, .int .u32 0, .int .i8 0, .int .u32 0, .int .i64 0, .int .i8 0, .string ⟨#[]⟩, .slice none 0 0, .slice none 0 0, .int .i32 0, .bool false, .bool false, .int .i64 0, .int .i32 0, .slice none 0 0, .slice none 0 0, .slice none 0 0, .int .i64 0]
theorem zPk_is (k : Int) : zPk k = (pkL (pkZ k) zTx.toList (.slice none 0 0)).toArray := rfl

theorem cut4 {w : World} {ao : Option Addr} {xs : List Int} {cap : Nat} (h : Sees w (.slice ao xs.length cap) xs) (h4 : 4 ≤ xs.length) : ∃ ua m uc, sliced ao 4 xs.length cap 1 = .slice ua m uc ∧ Sees w (.slice ua m uc) (xs.drop 4) := by
  have a := sees_drop h h4
  have e : sliced ao 4 xs.length cap 1 = cutFrom (.slice ao xs.length cap) 4 := by
    unfold sliced cutFrom
    split
    · next hc => simp [hc]
    · next hc => simp [hc]
  rw [← e] at a
  obtain ⟨ua, m, uc, e2⟩ := sees_form a
  rw [e2] at a
  exact ⟨ua, m, uc, e2, a⟩

theorem rqN_in (w : World) (F : Nat → Prop) : RqIn w F zRq.toList rqN :=
  RqIn.mk ⟨0, ⟨#[]⟩, [], [], 0, false, false, 0, 0, []⟩ 0 (fun i => i.elim0) (.slice none 0 0) (.slice none 0 0) (.slice none 0 0) (.slice none 0 0) (fun i => i.elim0) (sees_nil w) (SeesR.nil w 3) (SeesR.nil w 2) (SeesR.nil w 11) (fun k e => by simp [Value.ownBlock] at e) (fun k e => by simp [Value.ownBlock] at e) (fun k e => by simp [Value.ownBlock] at e) (fun k e => by simp [Value.ownBlock] at e) (fun i => i.elim0)

theorem pk_one {w : World} {g q r : Nat} {tc : List Value} {bv : Value} {d : PkD} (h : InPk w g q r tc bv d) : (pkL d tc bv).toArray.all (·.oneCell') = true := by
  obtain ⟨rc, e, hr⟩ := h.tx
  obtain ⟨b0, b1, b2, rfl⟩ := sees_form h.bys
  obtain ⟨q0, q1, d0, d1, d2, a0, a1, a2, q4, q5, q6, q7, q8, e0, e1, e2, o0, o1, o2, rfl⟩ := rq_forms hr.sees
  subst e
  simp [pkL, Value.oneCell', txHead]

/-- A packet whose lists lie behind a block. -/
structure OwnPk (w : World) (B : Nat) (tc : List Value) (bv : Value) (p : PkD) : Prop where
  tx : ∃ rc, tc = txHead p.tx ++ rc ∧ RqIn w (fun k => B < k) rc p.tx.rq
  bys : Sees w bv p.bys
  byt : Byts p.bys
  beh : ∀ k, bv.ownBlock = some k → B < k
theorem OwnPk.sees {w : World} {B : Nat} {tc : List Value} {bv : Value} {p : PkD} (h : OwnPk w B tc bv p) : SeesPk w tc bv p := by
  obtain ⟨rc, e, hr⟩ := h.tx
  exact ⟨⟨rc, e, hr.sees⟩, h.bys, h.byt⟩
theorem OwnPk.kept {w w' : World} {B C : Nat} {S : Nat → Prop} {tc : List Value} {bv : Value} {p : PkD} (h : OwnPk w B tc bv p) (hk : Kept w w' S) (hS : ∀ k, S k → k ≤ B) (hC : C ≤ B) : OwnPk w' C tc bv p := by
  obtain ⟨rc, e, hr⟩ := h.tx
  exact ⟨⟨rc, e, hr.kept hk (fun k hF => ⟨fun e => by have := hS k e; omega, by omega⟩)⟩, h.bys.kept hk (fun k e e2 => by have := hS k e2; have := h.beh k e; omega), h.byt, fun k e => by have := h.beh k e; omega⟩

/-- What parsed has in hand. -/
structure PrH (w : World) (g : Nat) (W : World) : Prop where
  bel : Below w.heap.size w W
  res : W.heap[w.heap.size]? = some (.cells (zPk 0) 39 (0, 0))
  nam : Nam W
  pnam : PNam W
  gl : w.heap.size < g
  ng : 1 < g
  np : 0 < g

theorem PrH.kept {w W W' : World} {g : Nat} {S : Nat → Prop} (hn : Nam w) (hp : PNam w) (h : PrH w g W) (hk : Kept W W' S) (hS : ∀ k, S k → w.heap.size < k) : PrH w g W' := by
  have hb : Below w.heap.size w W' := h.bel.trans (hk.below h.bel.size (fun k e => by have := hS k e; omega))
  exact ⟨hb, hk.heap h.res (fun e => by have := hS _ e; omega), hn.below hb hn.lt, hp.below hb hp.lt, h.gl, h.ng, h.np⟩

theorem PrH.later {w W W' : World} {g : Nat} (hn : Nam w) (hp : PNam w) (h : PrH w g W) (hb : Below W.heap.size W W') : PrH w g W' :=
  h.kept hn hp (Below.kept hb) (fun k e => by have := lt_of_block h.res; omega)

theorem pr_later {w W W' : World} {g q r : Nat} {v : Value} {xs : List Int} {tc : List Value} {bv : Value} {d : PkD} {A : Prop} (hn : Nam w) (hp : PNam w) (h : PrH w g W ∧ IsR W g v xs 0 ∧ InPk W g q r tc bv d ∧ A) (hb : Below W.heap.size W W') : PrH w g W' ∧ IsR W' g v xs 0 ∧ InPk W' g q r tc bv d ∧ A := by
  have hk : Kept W W' (fun _ => False) := (Below.kept hb).mono (fun k hk e => by omega)
  exact ⟨h.1.later hn hp hb, h.2.1.kept hk (fun e => e) (fun _ _ e => e), h.2.2.1.turn (hk.mono (fun _ _ e => False.elim e)) (hk.heap h.2.2.1.at_ (fun e => e)) rfl rfl, h.2.2.2⟩

set_option maxHeartbeats 8000000 in
theorem parsed_good (p : PkD) (tz : Bool) (hz : tz = true ↔ p.tx = txN) (hg : p.good) (hby : Byts p.bys) (hc : chkP p tz = true) (b : Value) (w : World) (hs : Sees w b (pkB p)) (hn : Nam w) (hp : PNam w) :
    Calls Tryz.prog 42 #[b] w fun r w' => ∃ tc bv, r = .returned (.agg (pkL p tc bv).toArray) ∧ OwnPk w' w.heap.size tc bv p ∧ Below w.heap.size w w' := by
  have hbb := body_byts p hg hby (chk_all hc)
  have had := adler_bd (bodyP p)
  have hpb : Byts (pkB p) := (byts4 _ had.1 had.2).append hbb
  have hL4 : 4 < (pkB p).length := by have := body_pos p; rw [pkB_len]; omega
  have hL5 : (pkB p).length ≤ 8192 := by have := body_le hc; rw [pkB_len]; omega
  have HX : Hid (p.good ∧ (tz = true ↔ p.tx = txN) ∧ chkP p tz = true ∧ Byts (pkB p) ∧ Byts (bodyP p) ∧ Nam w ∧ PNam w ∧ (∀ j ∈ fldsP p, rgB j p = true) ∧ Byts p.bys) := ⟨hg, hz, hc, hpb, hbb, hn, hp, chk_all hc, hby⟩
  obtain ⟨ao, cap, rfl, hcap, _⟩ := id hs
  obtain ⟨ua, m, uc, eP, hsu⟩ := cut4 hs (by omega)
  have hne : bodyP p ≠ [] := by have := body_pos p; intro e; rw [e] at this; simp at this
  have HSU : Hid (∀ k, (Value.slice ua m uc).ownBlock = some k → k < w.heap.size) := fun k e => hsu.lt hne k e
  clear hne
  obtain ⟨L, hL⟩ : ∃ L, L = (pkB p).length := ⟨_, rfl⟩
  rw [← hL] at hs hL4 hL5 hcap eP ⊢
  obtain ⟨W, hW⟩ : ∃ W, W = w.alloc (.cells (zPk 0) 39) := ⟨_, rfl⟩
  have HW : Hid (Below w.heap.size w W ∧ W.heap[w.heap.size]? = some (.cells (zPk 0) 39 (0, 0)) ∧ Sees W (.slice ao L cap) (pkB p) ∧ Sees W (.slice ua m uc) (bodyP p) ∧ L = (pkB p).length) := by
    have hb : Below w.heap.size w W := by rw [hW]; exact one_alloc _ _
    exact ⟨hb, by rw [hW]; exact heap_alloc_new _ _, hs.below hb (Nat.le_refl _), hsu.below hb (Nat.le_refl _), hL⟩
  have HA : Hid _ := hW
  have hd1 : decide ((L : Int) ≤ 8192) = true := decide_eq_true (by omega)
  have hd2 : decide ((4 : Int) < L) = true := decide_eq_true (by omega)
  clear hW hs hsu hn hp hz hg hc hby hbb hpb had hL
  go_enter Tryz.func42, Tryz.ntmps42
  go_upto_region 1 with fail
  rw [← HA.out]
  clear HA
  go_wp2_with fail
  refine (need_true _).mono ?_
  rintro _ w1 ⟨rfl, h1⟩
  rw [h1]
  clear h1 w1
  go_wp2_with fail
  refine (new_any _ (pkB p) _ HW.out.2.2.1 (by have := HW.out.2.2.2.2; omega)).mono ?_
  rintro _ w2 ⟨g, v2, rfl, hR, hgl, ho, b2⟩
  have hsz := lt_of_block HW.out.2.1
  have H2 : Hid (PrH w g w2 ∧ IsR w2 g v2 (be4 (adler (bodyP p)) ++ bodyP p) 0 ∧ Sees w2 (.slice ua m uc) (bodyP p) ∧ (∀ k, v2.ownBlock = some k → w.heap.size < k ∧ k < w2.heap.size)) := by
    have hb2 : Below w.heap.size w w2 := HW.out.1.trans (b2.mono HW.out.1.size)
    have l1 := HX.out.2.2.2.2.2.1.lt
    have l2 := HX.out.2.2.2.2.2.2.1.lt
    exact ⟨⟨hb2, (Below.kept b2).heap HW.out.2.1 (by omega), HX.out.2.2.2.2.2.1.below hb2 l1, HX.out.2.2.2.2.2.2.1.below hb2 l2, by omega, by omega, by omega⟩, hR, HW.out.2.2.2.1.below b2 (Nat.le_refl _), fun k e => by have := ho.lt k e; omega⟩
  clear hR hgl ho b2 HW hsz
  go_upto_region 3 with fail
  have HD : Hid (PrH w g w2.drew ∧ IsR w2.drew g v2 (be4 (adler (bodyP p)) ++ bodyP p) 0 ∧ Sees w2.drew (.slice ua m uc) (bodyP p)) := ⟨H2.out.1.later HX.out.2.2.2.2.2.1 HX.out.2.2.2.2.2.2.1 (below_drewN (Below.refl _ _) 1), H2.out.2.1.kept ((Kept.refl w2 (fun _ => False)).drewN 1) (fun h => h) (fun _ _ h => h), H2.out.2.2.1.below (below_drewN (Below.refl _ _) 1) (Nat.le_refl _)⟩
  refine wp_region_held_drew (S := (fun _ => True)) (by kernel_rfl) ?_ (fun hHeld => ?_)
  · trivial
  refine tkV 0 (v := ?_) rfl (Or.inl ⟨by rfl, ?_⟩) ?_
  rotate_left
  · (intro w hSw; (try dsimp only at hSw); go_simp) <;> with_reducible rfl
  try simp only [Act.put, sA, sB, sC]
  refine tkV 2 (v := ?_) rfl (Or.inl ⟨by rfl, ?_⟩) ?_
  rotate_left
  · (intro w hSw; (try dsimp only at hSw); go_simp) <;> with_reducible rfl
  try simp only [Act.put, sA, sB, sC]
  refine wpAnyH_take (i := 3) (oi := { dst := some 21, op := Op.slice 30 (Operand.tmp 20) (some (Operand.const (Value.int IntKind.i64 4))) none none, type := 30, pos := "packet.go:62", after := #[{ on := 2, ground := Ground.data }], guard := none }) (v := .slice ua m uc) rfl (by kernel_rfl) (by kernel_rfl) (by kernel_rfl) (fun _ _ _ h => h) (Or.inl ⟨by rfl, fun w' hSw => by rw [← eP]; go_simp; intro hlt; omega⟩) (by assumption) ?_
  try simp only [Act.put, sA, sB, sC]
  refine wpAnyH_ready (rs := [1]) (by kernel_rfl) (by simp) ?_
  refine acV 1 rfl (fun K hK => ?_) AllReadyH.nil
  go_simp
  refine (gU32 (g := g) (v := v2) (w := w2.drew) (adler (bodyP p)) HD.out.2.1 HX.out.2.2.2.1).mono ?_
  rintro _ w3 ⟨rfl, v3, h1, h2, h3⟩
  have H3 : Hid (PrH w g w3 ∧ IsR w3 g v3 (bodyP p) 0 ∧ Sees w3 (.slice ua m uc) (bodyP p) ∧ (∀ k, v3.ownBlock = some k → w.heap.size < k ∧ k < w2.heap.size) ∧ w2.heap.size ≤ w3.heap.size) := ⟨HD.out.1.kept HX.out.2.2.2.2.2.1 HX.out.2.2.2.2.2.2.1 h3 (fun k e => by have := HD.out.1.gl; omega), h1, HD.out.2.2.kept h3 (fun k e e2 => by have := HSU.out k e; have := HD.out.1.gl; omega), fun k e => H2.out.2.2.2 k (h2 k e), by have := h3.size; simpa using this⟩
  clear h1 h2 h3
  refine hK.out _ _ trivial (fun hHeld => ?_)
  clear hK K
  refine wpAnyH_ready (rs := [4]) (by kernel_rfl) (by simp) ?_
  refine acV 4 rfl (fun K hK => ?_) AllReadyH.nil
  go_simp
  refine (packSum_any _ (bodyP p) _ H3.out.2.2.1 HX.out.2.2.2.2.1).mono ?_
  rintro _ w4 ⟨rfl, h4⟩
  rw [h4]
  clear h4 w4
  refine hK.out _ _ trivial (fun hHeld => ?_)
  clear hK K
  refine tkV 5 (v := ?_) rfl (Or.inl ⟨by rfl, ?_⟩) ?_
  rotate_left
  · (intro w hSw; (try dsimp only at hSw); go_simp) <;> with_reducible rfl
  try simp only [Act.put, sA, sB, sC]
  refine wpAnyH_ready (rs := [6]) (by kernel_rfl) (by simp) ?_
  refine acV 6 rfl (fun K hK => ?_) AllReadyH.nil
  go_simp
  refine (need_true _).mono ?_
  rintro _ w4 ⟨rfl, h4⟩
  rw [h4]
  clear h4 w4
  refine hK.out _ _ trivial (fun hHeld => ?_)
  clear hK K
  refine wpAnyH_done (by kernel_rfl) ?_ _
  clear hHeld HD H2 eP
  go_wp2_with fail
  refine (gI8 (g := g) (v := v3) (w := w3) p.kind H3.out.2.1 HX.out.2.2.2.2.1 HX.out.1.k0 HX.out.1.k1).mono ?_
  rintro _ w5 ⟨rfl, v5, h1, h2, h3⟩
  obtain ⟨q, hq⟩ : ∃ q, q = w5.heap.size := ⟨_, rfl⟩
  have s1 : (w5.alloc (.cells (zPk 0) 39)).heap[w5.heap.size]? = some (.cells (zPk 0) 39 (0, 0)) := heap_alloc_new _ _
  obtain ⟨V, hV⟩ : ∃ V, V = (w5.alloc (.cells (zPk 0) 39)).setRow w5.heap.size (zPk p.kind) := ⟨_, rfl⟩
  have H5 : Hid (PrH w g V ∧ IsR V g v5 ((fldsP p).flatMap (fun j => fdB j p)) 0 ∧ InPk V g q w.heap.size zTx.toList (.slice none 0 0) (pkZ p.kind) ∧ g ≠ q ∧ (∀ k, v5.ownBlock = some k → k ≠ q ∧ w.heap.size < k) ∧ w.heap.size < q) := by
    have hP := H3.out.1.kept HX.out.2.2.2.2.2.1 HX.out.2.2.2.2.2.2.1 h3 (fun k e => by have := H3.out.1.gl; omega)
    have hgs := lt_of_block h1.1
    have hs5 := h3.size
    have hw5 := lt_of_block hP.res
    have ks : Kept (w5.alloc (.cells (zPk 0) 39)) V (fun k => k = w5.heap.size) := by rw [hV]; exact ⟨rfl, rfl, rfl, by simp, fun k _ hn => setRow_other _ _ _ _ hn⟩
    have k5 : Kept w5 V (fun _ => False) := ((Kept.refl w5 (fun _ => False)).alloc _).trans ks (fun k hk e => by omega)
    have hat : PkAt V q (pkZ p.kind) zTx.toList (.slice none 0 0) := by rw [hV, hq]; unfold PkAt; rw [← zPk_is]; exact setRow_heap _ _ _ _ _ _ s1
    refine ⟨hP.kept HX.out.2.2.2.2.2.1 HX.out.2.2.2.2.2.2.1 k5 (fun k e => False.elim e), h1.kept k5 (fun h => h) (fun _ _ h => h), ⟨hat, ⟨zRq.toList, rfl, rqN_in _ _⟩, sees_nil _, fun k e => by simp [Value.ownBlock] at e⟩, by omega, fun k e => ⟨by have := (H3.out.2.2.2.1 k (h2 k e)).2; have := H3.out.2.2.2.2; omega, (H3.out.2.2.2.1 k (h2 k e)).1⟩, by omega⟩
  have HV : Hid (V = (w5.alloc (.cells (zPk 0) 39)).setRow w5.heap.size (zPk p.kind) ∧ q = w5.heap.size) := ⟨hV, hq⟩
  clear hV hq h1 h2 h3 H3
  have q32k : (Tryz.prog.info? 39).map (·.size) = some (zPk p.kind).size := pkSz0
  have u1k : (zPk p.kind).all (·.oneCell') = true := by simp [Value.oneCell']
  have szk : (zPk p.kind).size = (zPk 0).size := rfl
  go_upto_region 5 with (refine wpList_store_row rfl 39 _ _ rfl w5.heap.size (zPk p.kind) rfl rfl 39 _ s1 q32k szk u1k ?_)
  clear s1 q32k u1k szk
  rw [← HV.out.1, ← HV.out.2]
  clear HV
  have c0 : V.cell? ⟨q, 0, none⟩ = some (.int .i8 p.kind) := pk_at H5.out.2.2.1.at_ rfl
  go_wp2_with fail
  refine (namedBy_any _ _ H5.out.1.pnam).mono ?_
  rintro _ w6 ⟨rfl, b6⟩
  have H6 : Hid (PrH w g w6 ∧ IsR w6 g v5 ((fldsP p).flatMap (fun j => fdB j p)) 0 ∧ InPk w6 g q w.heap.size zTx.toList (.slice none 0 0) (pkZ p.kind) ∧ g ≠ q ∧ (∀ k, v5.ownBlock = some k → k ≠ q ∧ w.heap.size < k) ∧ w.heap.size < q) := pr_later HX.out.2.2.2.2.2.1 HX.out.2.2.2.2.2.2.1 H5.out b6
  clear b6 H5 c0
  obtain ⟨N, hN⟩ : ∃ N, N = nmP p.kind := ⟨_, rfl⟩
  rw [← hN]
  have HN : Hid _ := hN
  clear hN
  go_wp2_with fail
  refine (rowsOf_any N _).mono ?_
  rintro _ w7 ⟨rv, rfl, ho, b7⟩
  have H7 : Hid ((PrH w g w7 ∧ IsR w7 g v5 ((fldsP p).flatMap (fun j => fdB j p)) 0 ∧ InPk w7 g q w.heap.size zTx.toList (.slice none 0 0) (pkZ p.kind) ∧ g ≠ q ∧ (∀ k, v5.ownBlock = some k → k ≠ q ∧ w.heap.size < k) ∧ w.heap.size < q) ∧ SeesR w7 rv 4 ((flN N 12).map rowC) ∧ (∀ k, rv.ownBlock = some k → k ≠ g ∧ k ≠ q)) := by
    refine ⟨pr_later HX.out.2.2.2.2.2.1 HX.out.2.2.2.2.2.2.1 H6.out b7, rows_sees ho, fun k hk => ?_⟩
    have := (ho.lt k hk).1
    have := lt_of_block H6.out.2.1.1
    have := H6.out.2.2.1.at_.lt
    exact ⟨by omega, by omega⟩
  have hlen := flN_len N 12
  obtain ⟨LL, hLL⟩ : ∃ LL, LL = flN N 12 := ⟨_, rfl⟩
  have HL : Hid (LL = fldsP p) := by show LL = fldsP p; rw [hLL, HN.out]
  rw [← hLL] at H7 hlen
  clear ho b7 H6 hLL HN
  obtain ⟨va, vc, rfl⟩ : ∃ va vc, rv = .slice va LL.length vc := by obtain ⟨ao, c, e, _⟩ := H7.out.2.1; rw [List.length_map] at e; exact ⟨ao, c, e⟩
  go_wp2_with fail
  go_loopw [33] (fun i wr => ∃ (k : Nat) (v : Value) (tc : List Value) (bv : Value), k ≤ LL.length ∧ i = .int .i64 k ∧ Hid ((PrH w g wr ∧ IsR wr g v ((LL.drop k).flatMap (fun j => fdB j p)) 0 ∧ InPk wr g q w.heap.size tc bv ((LL.take k).foldl (fun d j => setF j p d) (pkZ p.kind)) ∧ g ≠ q ∧ (∀ k, v.ownBlock = some k → k ≠ q ∧ w.heap.size < k) ∧ w.heap.size < q) ∧ SeesR wr (.slice va LL.length vc) 4 (LL.map rowC) ∧ (∀ k, (Value.slice va LL.length vc).ownBlock = some k → k ≠ g ∧ k ≠ q))) (fun i _ => LL.length - (intOf i).toNat)
  case atStart =>
    refine ⟨0, v5, zTx.toList, .slice none 0 0, Nat.zero_le _, rfl, ?_⟩
    have a := H7.out
    rw [← HL.out] at a
    exact a
  case round =>
    clear H7
    obtain ⟨k, v, tc, bv, hk, rfl, H⟩ := hrel
    by_cases hlt : k < LL.length
    · obtain ⟨b, off, c, e, hcl, c0, c1, c2, c3⟩ := rows_at H.out.2.1 k hlt
      simp at e
      obtain ⟨rfl, rfl⟩ := e
      obtain ⟨j, hj⟩ : ∃ j, j = LL[k] := ⟨_, rfl⟩
      rw [← hj] at c0 c1 c2 c3
      have HJ : Hid (j = LL[k] ∧ j ∈ LL) := ⟨hj, by rw [hj]; exact List.getElem_mem _⟩
      clear hj
      have hsf := store_fn15
      obtain ⟨V8, HV8⟩ : ∃ V8, Hid (V8 = wr.alloc (.cells #[.int .u16 (pw j), .func (.func (fRt j)) #[] #[], .func (.func (fPt j)) #[] #[], .func (.func (fGt j)) #[] #[]] 101)) := ⟨_, rfl⟩
      have H8 : Hid ((PrH w g V8 ∧ IsR V8 g v (fdB j p ++ (LL.drop (k + 1)).flatMap (fun j => fdB j p)) 0 ∧ InPk V8 g q w.heap.size tc bv ((LL.take k).foldl (fun d j => setF j p d) (pkZ p.kind)) ∧ g ≠ q ∧ (∀ k, v.ownBlock = some k → k ≠ q ∧ w.heap.size < k) ∧ w.heap.size < q) ∧ SeesR V8 (.slice (some ⟨b, off, none⟩) LL.length vc) 4 (LL.map rowC) ∧ (∀ k, (Value.slice (some ⟨b, off, none⟩) LL.length vc).ownBlock = some k → k ≠ g ∧ k ≠ q) ∧ V8.heap[wr.heap.size]? = some (.cells (rowC j).toArray 101 (0, 0))) := by
        rw [HV8.out]
        have a := H.out.1
        rw [List.drop_eq_getElem_cons hlt, List.flatMap_cons, ← HJ.out.1] at a
        exact ⟨pr_later HX.out.2.2.2.2.2.1 HX.out.2.2.2.2.2.2.1 a (one_alloc _ _), H.out.2.1.below (one_alloc _ _) (Nat.le_refl _), H.out.2.2, heap_alloc_new _ _⟩
      go_upto_region 8 with fail
      rw [← HV8.out]
      clear HV8 c0 c1 c2 c3 H hsf
      have d1 : V8.cell? ⟨wr.heap.size, 3, none⟩ = some (fv (fGt j)) := pk_at H8.out.2.2.2 rfl
      have hen := enter_fGt j
      go_wp2_with fail
      have hrj : rgB j p = true := HX.out.2.2.2.2.2.2.2.1 j (by rw [← HL.out]; exact HJ.out.2)
      have hbj : Byts (fdB j p ++ (LL.drop (k + 1)).flatMap (fun j => fdB j p)) := (fdB_byts j p HX.out.1 HX.out.2.2.2.2.2.2.2.2 hrj).append (flat_byts p HX.out.1 HX.out.2.2.2.2.2.2.2.2 _ (fun i hi => HX.out.2.2.2.2.2.2.2.1 i (by rw [← HL.out]; exact List.mem_of_mem_drop hi)))
      refine (get_any j p g q w.heap.size v _ tc bv _ V8 HX.out.1 hrj H8.out.1.1.nam H8.out.1.1.ng (lt_of_block H8.out.1.1.res) H8.out.1.2.1 hbj H8.out.1.2.2.1 H8.out.1.2.2.2.1 H8.out.1.2.2.2.2.1).mono ?_
      rintro _ w9 ⟨rfl, tc9, bv9, v9, hi9, hR9, hv9, hk9⟩
      have H9 : Hid ((PrH w g w9 ∧ IsR w9 g v9 ((LL.drop (k + 1)).flatMap (fun j => fdB j p)) 0 ∧ InPk w9 g q w.heap.size tc9 bv9 ((LL.take (k + 1)).foldl (fun d j => setF j p d) (pkZ p.kind)) ∧ g ≠ q ∧ (∀ k, v9.ownBlock = some k → k ≠ q ∧ w.heap.size < k) ∧ w.heap.size < q) ∧ SeesR w9 (.slice (some ⟨b, off, none⟩) LL.length vc) 4 (LL.map rowC) ∧ (∀ k, (Value.slice (some ⟨b, off, none⟩) LL.length vc).ownBlock = some k → k ≠ g ∧ k ≠ q)) := by
        have hgl := H8.out.1.1.gl
        have hql := H8.out.1.2.2.2.2.2
        refine ⟨⟨H8.out.1.1.kept HX.out.2.2.2.2.2.1 HX.out.2.2.2.2.2.2.1 hk9 (fun k e => by omega), hR9, ?_, H8.out.1.2.2.2.1, fun k e => H8.out.1.2.2.2.2.1 k (hv9 k e), hql⟩, H8.out.2.1.kept hk9 (fun k e e2 => ?_), H8.out.2.2.1⟩
        · rw [List.take_succ_eq_append_getElem hlt, List.foldl_append, ← HJ.out.1]
          exact hi9
        · have := H8.out.2.2.1 k e
          omega
      clear hi9 hR9 hv9 hk9 H8 d1 hen hrj hbj
      go_wp2_with fail
      refine (rErr_any g v9 _ 0 _ H9.out.1.2.1).mono ?_
      rintro _ w10 ⟨rfl, h10⟩
      rw [h10]
      clear h10 w10
      go_wp2_with fail
      refine (need_true _).mono ?_
      rintro _ w10 ⟨rfl, h10⟩
      rw [h10]
      clear h10 w10
      go_wp2_with fail
      go_roundw
      case rel => exact ⟨k + 1, v9, tc9, bv9, by omega, by go_num, H9⟩
      case measure => simp [intOf]; omega
    · obtain rfl : k = LL.length := by omega
      have HB : Hid ((PrH w g wr ∧ IsR wr g v [] 0 ∧ InPk wr g q w.heap.size tc bv p ∧ g ≠ q ∧ (∀ k, v.ownBlock = some k → k ≠ q ∧ w.heap.size < k) ∧ w.heap.size < q)) := by
        have a := H.out.1
        rw [List.drop_length, List.take_length, HL.out, pk_fold HX.out.2.1 HX.out.2.2.1] at a
        exact a
      clear H
      go_wp2_with fail
      refine (rEnd_any g v [] 0 wr HB.out.2.1).mono ?_
      rintro _ w10 ⟨rfl, h10⟩
      rw [h10]
      clear h10 w10
      have hrow := HB.out.2.2.1.at_
      unfold PkAt at hrow
      have q32 := pkSz p tc bv HB.out.2.2.1.len
      go_wp2_with (refine load_rowG (by rfl) 39 _ rfl q rfl 39 _ (0, 0) _ hrow Tryz.underlying39 rfl q32 ?_)
      have HSP : Hid (SeesPk wr tc bv p) := by
        obtain ⟨rc, e, hr⟩ := HB.out.2.2.1.tx
        exact ⟨⟨rc, e, hr.sees⟩, HB.out.2.2.1.bys, HX.out.2.2.2.2.2.2.2.2⟩
      refine (checkP_any p tc bv tz HX.out.2.1 _ HX.out.1 HSP.out HB.out.1.nam HB.out.1.pnam).mono ?_
      rintro _ w11 ⟨rfl, b11⟩
      rw [HX.out.2.2.1]
      have H11 : Hid (PrH w g w11 ∧ InPk w11 g q w.heap.size tc bv p) := by
        have a := pr_later HX.out.2.2.2.2.2.1 HX.out.2.2.2.2.2.2.1 HB.out b11
        exact ⟨a.1, a.2.2.1⟩
      clear b11 hrow HSP HB
      go_wp2_with fail
      refine (need_true _).mono ?_
      rintro _ w12 ⟨rfl, h12⟩
      rw [h12]
      clear h12 w12
      have hrow := H11.out.2.at_
      unfold PkAt at hrow
      have s2 := H11.out.1.res
      have u1p : (pkL p tc bv).toArray.all (·.oneCell') = true := pk_one H11.out.2
      have szp : (zPk 0).size = (pkL p tc bv).toArray.size := by simp [pkL, H11.out.2.len]
      go_wp2_with (first | (refine wpList_load_row rfl 39 _ rfl q rfl 39 _ (0, 0) _ hrow Tryz.underlying39 rfl q32 ?_) | (refine wpList_store_row rfl 39 _ _ rfl w.heap.size (pkL p tc bv).toArray rfl rfl 39 _ s2 q32 szp u1p ?_))
      have hrf := setRow_heap w11 w.heap.size _ (pkL p tc bv).toArray _ _ s2
      have kf : Kept w11 (w11.setRow w.heap.size (pkL p tc bv).toArray) (fun k => k = w.heap.size) := ⟨rfl, rfl, rfl, by simp, fun k _ hn => setRow_other _ _ _ _ hn⟩
      have hld := run_loadVar_row (P := Tryz.prog) _ w.heap.size 39 39 _ (0, 0) _ hrf Tryz.underlying39 rfl q32
      refine bodyPost_ret (v := .agg (pkL p tc bv).toArray) ?_ rfl ⟨tc, bv, rfl, ?_, H11.out.1.bel.trans (kf.below H11.out.1.bel.size (fun k e => by omega))⟩
      · rw [resCell1 Tryz.results42]
        show ((asAddr (.pointer (some ⟨w.heap.size, 0, none⟩))).run Tryz.prog _).andThen _ = _
        simp only [asAddr, Sem.run_pure, Result.andThen_ok, hld]
      · obtain ⟨rc, e, hr⟩ := H11.out.2.tx
        exact ⟨⟨rc, e, RqIn.kept kf (fun k hF => ⟨fun e => by omega, hF.2.2⟩) hr⟩, H11.out.2.bys.kept kf (fun k e e2 => by have := H11.out.2.apart k e; omega), HX.out.2.2.2.2.2.2.2.2, fun k e => (H11.out.2.apart k e).2.2⟩
end Go.Proofs.YtldcbabgommghaaGreatDoor
