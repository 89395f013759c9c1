/- What the rows of package packet read: the buffer and the transaction; need. -/
import Derived.Test.YtldcbabgommghaaGreatDoorPkNJ
import Derived.Test.YtldcbabgommghaaGreatDoorPkFJ
import Derived.Deep.MidRow
namespace Go.Proofs.YtldcbabgommghaaGreatDoor
open Go.RowKit
set_option maxRecDepth 8000

theorem need_true (w : World) : Calls Tryz.prog 54 #[.bool true] w fun e w' => e = .returned (.tuple #[]) ∧ w' = w := by
  go_enter Tryz.func54, Tryz.ntmps54
  go_wp2
  go_end0
  exact ⟨rfl, rfl⟩

theorem need_false (w : World) : Calls Tryz.prog 54 #[.bool false] w fun e w' => e = .panicked [{ v := .iface 123 (.agg #[]), recovered := false }] ∧ w' = w := by
  go_enter Tryz.func54, Tryz.ntmps54
  go_wp2
  exact ⟨rfl, rfl, rfl⟩

theorem tx_one15 {w : World} {cs : List Value} {t : TxD} (h : SeesTx w cs t) : cs.toArray.all (·.oneCell') = true := by
  obtain ⟨rc, rfl, hr⟩ := h
  obtain ⟨q0, q1, d0, d1, d2, a0, a1, a2, q4, q5, q6, q7, q8, e0, e1, e2, o0, o1, o2, rfl⟩ := rq_forms hr
  simp [Value.oneCell', txHead]

/-- Cells of a row, written over from a place on. -/
def setFrom (cs : Array Value) : Nat → List Value → Array Value
  | _, [] => cs
  | o, v :: r => setFrom (cs.setIfInBounds o v) (o + 1) r
theorem heap_setCells {b : Nat} {t : TypeId} {fr : Nat × Nat} : ∀ (vs : List Value) (o : Nat) (w : World) (cs : Array Value), w.heap[b]? = some (.cells cs t fr) → (w.setCells b o vs).heap[b]? = some (.cells (setFrom cs o vs) t fr)
  | [], _, _, _, h => h
  | v :: r, o, _, _, h => heap_setCells r (o + 1) _ _ (heap_setR v h)
theorem setFrom_mid (B : List Value) : ∀ (new old A : List Value), old.length = new.length → setFrom (A ++ (old ++ B)).toArray A.length new = (A ++ (new ++ B)).toArray
  | [], [], A, _ => rfl
  | y :: new, x :: old, A, h => by
    show setFrom ((A ++ (x :: old ++ B)).toArray.setIfInBounds A.length y) (A.length + 1) new = _
    rw [List.setIfInBounds_toArray, show (A ++ (x :: old ++ B)).set A.length y = (A ++ [y]) ++ (old ++ B) by simp, show A.length + 1 = (A ++ [y]).length by simp, setFrom_mid B new old (A ++ [y]) (by simpa using h)]
    simp
theorem kept_setCells (q : Nat) : ∀ (vs : List Value) (o : Nat) (w : World), Kept w (w.setCells q o vs) (fun k => k = q)
  | [], _, w => Kept.refl w _
  | v :: r, o, w => ((Kept.refl w (fun k => k = q)).setCell ⟨q, o, none⟩ v (fun _ => rfl)).trans (kept_setCells q r (o + 1) _) (fun _ _ e => e)

section
variable (p : PkD) (g q r : Nat) (v : Value) (d : PkD) (tc : List Value) (bv : Value) (rest : List Int) (w : World)

theorem set30 (hl : tc.length = 16) (u : Value) (ys : List Int) : (pkL d tc bv).toArray.setIfInBounds 30 u = (pkL { d with bys := ys } tc u).toArray := by
  rw [List.setIfInBounds_toArray]
  congr 1
  show _ :: _ :: _ :: _ :: _ :: _ :: _ :: _ :: _ :: _ :: _ :: _ :: _ :: _ :: ((tc ++ [bv, .int .i64 d.ses]).set 16 u) = _
  rw [List.set_append_right _ _ (by omega), hl]
  rfl

set_option maxHeartbeats 1000000 in
theorem gt10 (hl : p.bys.length ≤ 4096) (h : IsR w g v (fdB 10 p ++ rest) 0) (hb : Byts (fdB 10 p ++ rest)) (hi : InPk w g q r tc bv d) (hgq : g ≠ q) (hv : ∀ k, v.ownBlock = some k → k ≠ q ∧ r < k) : Calls Tryz.prog 114 #[.pointer (some ⟨g, 0, none⟩), .pointer (some ⟨q, 0, none⟩)] w fun e w' => e = .returned (.tuple #[]) ∧ Gets w g q r v (setF 10 p d) rest w' := by
  have H : Hid (IsR w g v ((be4 p.bys.length ++ p.bys) ++ rest) 0 ∧ Byts ((be4 p.bys.length ++ p.bys) ++ rest) ∧ InPk w g q r tc bv d ∧ g ≠ q ∧ (∀ k, v.ownBlock = some k → k ≠ q ∧ r < k) ∧ v.ownBlock ≠ some g) := ⟨h, hb, hi, hgq, hv, h.apart (by simp [fdB, be4])⟩
  clear h hb hi hgq hv
  go_enter Tryz.func114, Tryz.ntmps114
  go_wp2_with fail
  refine (gBuf (g := g) (v := v) (w := w) p.bys 4096 H.out.1 H.out.2.1 (by omega) (by omega)).mono ?_
  rintro _ w1 ⟨u, rfl, ⟨hu, ⟨uo, rfl⟩, hub⟩, v1, h1, h2, h3⟩
  have hrow : w1.heap[q]? = some (.cells (pkL d tc bv).toArray 39 (0, 0)) := h3.heap H.out.2.2.1.at_ (fun e => H.out.2.2.2.1 e.symm)
  have c30 : w1.cell? ⟨q, 30, none⟩ = some bv := (PkAt.tail (W := w1) hrow H.out.2.2.1.len).2.1
  have f30 := frozen_of_row w1 q 30 _ _ hrow
  obtain ⟨b0, b1, b2, rfl⟩ := sees_form H.out.2.2.1.bys
  have HF : Hid (Gets w g q r v (setF 10 p d) rest (w1.setCell ⟨q, 30, none⟩ (.slice uo p.bys.length p.bys.length))) := by
    have k2 : Kept w1 (w1.setCell ⟨q, 30, none⟩ (.slice uo p.bys.length p.bys.length)) (fun k => k = q) := (Kept.refl w1 (fun k => k = q)).setCell ⟨q, 30, none⟩ _ (fun _ => rfl)
    have k3 : Kept w (w1.setCell ⟨q, 30, none⟩ (.slice uo p.bys.length p.bys.length)) (fun k => k = g ∨ k = q) := (h3.mono (fun k _ e => Or.inl e)).trans k2 (fun k _ e => .inr e)
    have hat : PkAt (w1.setCell ⟨q, 30, none⟩ (.slice uo p.bys.length p.bys.length)) q (setF 10 p d) tc (.slice uo p.bys.length p.bys.length) := by
      have a := heap_setR (i := 30) (.slice uo p.bys.length p.bys.length) hrow
      show _ = _
      rw [a, set30 d tc _ H.out.2.2.1.len _ p.bys]
      rfl
    obtain ⟨rc, e, hr⟩ := H.out.2.2.1.tx
    refine ⟨tc, _, v1, ⟨hat, ⟨rc, e, hr.kept k3 (fun k hF => ⟨fun e => by rcases e with e | e; (· exact hF.1 e); (· exact hF.2.1 e), hF⟩)⟩, hu.kept k2 (fun k e => (H.out.2.2.2.2.1 k (hub k e)).1), fun k e => ⟨fun e' => H.out.2.2.2.2.2 (by rw [← e']; exact hub k e), H.out.2.2.2.2.1 k (hub k e)⟩⟩, IsR.aside h1 k2 H.out.2.2.2.1 (fun k e => (H.out.2.2.2.2.1 k (h2 k e)).1), h2, k3⟩
  clear h1 h2 h3 hrow H hu hub
  go_wp2_with fail
  go_end0
  exact ⟨rfl, HF.out⟩

set_option maxHeartbeats 2000000 in
theorem gt9 (hrl : r < w.heap.size) (hok : txOk p.tx = true) (hg : p.good) (hn : Nam w) (hng : 1 < g) (h : IsR w g v (fdB 9 p ++ rest) 0) (hb : Byts (fdB 9 p ++ rest)) (hi : InPk w g q r tc bv d) (hgq : g ≠ q) (hv : ∀ k, v.ownBlock = some k → k ≠ q ∧ r < k) : Calls Tryz.prog 110 #[.pointer (some ⟨g, 0, none⟩), .pointer (some ⟨q, 0, none⟩)] w fun e w' => e = .returned (.tuple #[]) ∧ Gets w g q r v (setF 9 p d) rest w' := by
  have hlen := txB_t p.tx hok
  have H : Hid (IsR w g v ((be4 (txB p.tx).length ++ txB p.tx) ++ rest) 0 ∧ Byts ((be4 (txB p.tx).length ++ txB p.tx) ++ rest) ∧ InPk w g q r tc bv d ∧ g ≠ q ∧ (∀ k, v.ownBlock = some k → k ≠ q ∧ r < k) ∧ v.ownBlock ≠ some g) := ⟨h, hb, hi, hgq, hv, h.apart (by simp [fdB, be4])⟩
  have HK : Hid (txOk p.tx = true ∧ p.good ∧ Nam w ∧ 1 < g ∧ q < w.heap.size ∧ g < w.heap.size ∧ r < w.heap.size ∧ ∀ k, v.ownBlock = some k → k < w.heap.size) := ⟨hok, hg, hn, hng, hi.at_.lt, lt_of_block h.1, hrl, fun k e => h.2.lt (by simp [fdB, be4]) k e⟩
  clear h hb hi hgq hv hok hg hn hng hrl
  go_enter Tryz.func110, Tryz.ntmps110
  go_wp2_with fail
  refine (gBuf (g := g) (v := v) (w := w) (txB p.tx) 4096 H.out.1 H.out.2.1 (by omega) (by omega)).mono ?_
  rintro _ w1 ⟨u, rfl, ⟨hu, ⟨uo, rfl⟩, hub⟩, v1, h1, h2, h3⟩
  have H1 : Hid (Nam w1 ∧ Sees w1 (.slice uo (txB p.tx).length (txB p.tx).length) (txB p.tx) ∧ IsR w1 g v1 rest 0 ∧ (∀ k, v1.ownBlock = some k → v.ownBlock = some k) ∧ Kept w w1 (· = g)) := ⟨nam_kept HK.out.2.2.1 h3 (fun k hk e => by have := HK.out.2.2.2.1; omega), hu, h1, h2, h3⟩
  clear h1 h2 h3 hu hub
  go_wp2_with fail
  refine (read_bk p.tx HK.out.1 HK.out.2.1.tx _ w1 H1.out.2.1 H1.out.1).mono ?_
  rintro _ w7 ⟨rc, rfl, hrc, b7⟩
  obtain ⟨us, hus⟩ : ∃ us, us = txHead p.tx ++ rc := ⟨_, rfl⟩
  rw [← hus]
  have hu7 : SeesTx w7 us p.tx := ⟨rc, hus, hrc.sees⟩
  have ul := hu7.len
  have u1 : us.toArray.all (·.oneCell') = true := tx_one15 hu7
  have q16 : (Tryz.prog.info? 37).map (·.size) = some us.toArray.size := by rw [List.size_toArray, ul]; exact txSz
  have s1 : (w7.alloc (.cells zTx 37)).heap[w7.heap.size]? = some (.cells zTx 37 (0, 0)) := heap_alloc_new _ _
  obtain ⟨W8, hW8⟩ : ∃ W8, W8 = (w7.alloc (.cells zTx 37)).setRow w7.heap.size us.toArray := ⟨_, rfl⟩
  have H8 : Hid (W8.heap[w7.heap.size]? = some (.cells us.toArray 37 (0, 0)) ∧ Kept w W8 (fun k => k = g) ∧ RqIn W8 (fun k => k ≠ g ∧ k ≠ q ∧ r < k) rc p.tx.rq ∧ IsR W8 g v1 rest 0 ∧ us = txHead p.tx ++ rc ∧ PkAt W8 q d tc bv ∧ (∀ k, v1.ownBlock = some k → v.ownBlock = some k)) := by
    have ks : Kept (w7.alloc (.cells zTx 37)) W8 (fun k => k = w7.heap.size) := by rw [hW8]; exact ⟨rfl, rfl, rfl, by simp, fun k _ hn => setRow_other _ _ _ _ hn⟩
    have k7 : Kept w7 W8 (fun _ => False) := ((Kept.refl w7 (fun _ => False)).alloc _).trans ks (fun k hk e => by omega)
    have s17 := b7.size
    have kw1 := H1.out.2.2.2.2.size
    have k17 : Kept w1 W8 (fun _ => False) := ((Below.kept b7).mono (fun k hk e => by omega)).trans k7 (fun _ _ e => e)
    have kw : Kept w W8 (fun k => k = g) := H1.out.2.2.2.2.trans k17 (fun k _ e => False.elim e)
    refine ⟨by rw [hW8]; exact setRow_heap _ _ _ _ _ _ s1, kw, hrc.kept k7 (fun k hF => ⟨fun e => e, ?_⟩), H1.out.2.2.1.kept k17 (fun e => e) (fun _ _ e => e), hus, kw.heap H.out.2.2.1.at_ (fun e => H.out.2.2.2.1 e.symm), H1.out.2.2.2.1⟩
    have := HK.out.2.2.2.2
    exact ⟨by omega, by omega, by omega⟩
  have HW8 : Hid _ := hW8
  clear hW8 hu7 hus hrc b7 H1
  go_upto_region 1 with (refine wpList_store_row rfl 37 _ _ rfl w7.heap.size us.toArray rfl rfl 37 _ s1 q16 (by simp [ul]) u1 ?_)
  rw [← HW8.out]
  clear HW8 s1
  go_wp2_with fail
  refine (need_true _).mono ?_
  rintro _ w9 ⟨rfl, h9⟩
  rw [h9]
  clear h9
  have hr8 := H8.out.1
  have hrq := H8.out.2.2.2.2.2.1
  unfold PkAt at hrq
  have hth : W8.there q 14 us.toArray.size := by
    rw [List.size_toArray, ul]
    intro j hj
    refine ⟨?_, frozen_of_row W8 q (14 + j) _ _ hrq⟩
    rw [cell_of_row _ _ _ _ _ _ hrq, Array.getElem?_eq_getElem (by simp [pkL, H.out.2.2.1.len]; omega)]
    rfl
  have HF : Hid (Gets w g q r v (setF 9 p d) rest (W8.setCells q 14 us.toArray.toList)) := by
    have k2 := kept_setCells q us.toArray.toList 14 W8
    have k3 : Kept w (W8.setCells q 14 us.toArray.toList) (fun k => k = g ∨ k = q) := (H8.out.2.1.mono (fun k _ e => Or.inl e)).trans k2 (fun k _ e => .inr e)
    have hat : PkAt (W8.setCells q 14 us.toArray.toList) q (setF 9 p d) us bv := by
      have a := heap_setCells us.toArray.toList 14 W8 _ hrq
      show _ = _
      rw [a]
      congr 2
      exact setFrom_mid [bv, .int .i64 d.ses] us tc [.int .i8 d.kind, .int .u32 d.cb, .int .u32 d.ct, .int .u32 d.lb, .int .u32 d.lt, .int .i64 d.place, .int .u32 d.ep, .int .u32 d.cur, .int .u32 d.ze, .int .u32 d.zn, .int .u32 d.pe, .int .u32 d.pn, .bool d.cnt, .bool d.fin] (by rw [ul]; exact H.out.2.2.1.len)
    refine ⟨us, bv, v1, ⟨hat, ⟨rc, H8.out.2.2.2.2.1, H8.out.2.2.1.kept k2 (fun k hF => ⟨hF.2.1, hF⟩)⟩, H.out.2.2.1.bys.kept k3 (fun k e h' => by have := H.out.2.2.1.apart k e; rcases h' with h' | h'; (· exact this.1 h'); (· exact this.2.1 h')), H.out.2.2.1.apart⟩, IsR.aside H8.out.2.2.2.1 k2 H.out.2.2.2.1 (fun k e => (H.out.2.2.2.2.1 k (H8.out.2.2.2.2.2.2 k e)).1), H8.out.2.2.2.2.2.2, k3⟩
  clear H H8 HK hrq
  go_wp2_with (first | (refine wpList_load_row rfl 37 _ rfl w7.heap.size rfl 37 _ (0, 0) _ hr8 Tryz.underlying37 rfl q16 ?_) | (refine wpList_store_mid rfl 37 _ _ rfl q 14 us.toArray rfl rfl hth q16 u1 ?_))
  clear hr8 hth
  go_wp2_with fail
  go_end0
  exact ⟨rfl, HF.out⟩
end
end Go.Proofs.YtldcbabgommghaaGreatDoor

/- What the bits of each kind of packet say, as data; no Go function is walked here. -/
namespace Go.Proofs.YtldcbabgommghaaGreatDoor
open Go.RowKit
set_option maxRecDepth 8000

theorem fl_9 : flN 9 12 = [0, 3] := by decide +kernel
theorem am_9 : ∀ c l p e u z v o f t b s : Bool, (bits .andNot .u16 (fillM c l p e u z v o f t b s) 9 != 0) = (l || p || u || z || v || o || f || t || b || s) := by decide +kernel
theorem fl_15 : flN 15 12 = [0, 1, 2, 3] := by decide +kernel
theorem am_15 : ∀ c l p e u z v o f t b s : Bool, (bits .andNot .u16 (fillM c l p e u z v o f t b s) 15 != 0) = (u || z || v || o || f || t || b || s) := by decide +kernel
theorem fl_191 : flN 191 12 = [0, 1, 2, 3, 4, 5, 7] := by decide +kernel
theorem am_191 : ∀ c l p e u z v o f t b s : Bool, (bits .andNot .u16 (fillM c l p e u z v o f t b s) 191 != 0) = (v || f || t || b || s) := by decide +kernel
theorem fl_39 : flN 39 12 = [0, 1, 2, 5] := by decide +kernel
theorem am_39 : ∀ c l p e u z v o f t b s : Bool, (bits .andNot .u16 (fillM c l p e u z v o f t b s) 39 != 0) = (e || u || v || o || f || t || b || s) := by decide +kernel
theorem fl_583 : flN 583 12 = [0, 1, 2, 6, 9] := by decide +kernel
theorem am_583 : ∀ c l p e u z v o f t b s : Bool, (bits .andNot .u16 (fillM c l p e u z v o f t b s) 583 != 0) = (e || u || z || o || f || b || s) := by decide +kernel
theorem fl_1287 : flN 1287 12 = [0, 1, 2, 8, 10] := by decide +kernel
theorem am_1287 : ∀ c l p e u z v o f t b s : Bool, (bits .andNot .u16 (fillM c l p e u z v o f t b s) 1287 != 0) = (e || u || z || v || o || t || s) := by decide +kernel
theorem fl_47 : flN 47 12 = [0, 1, 2, 3, 5] := by decide +kernel
theorem am_47 : ∀ c l p e u z v o f t b s : Bool, (bits .andNot .u16 (fillM c l p e u z v o f t b s) 47 != 0) = (u || v || o || f || t || b || s) := by decide +kernel
theorem fl_519 : flN 519 12 = [0, 1, 2, 9] := by decide +kernel
theorem am_519 : ∀ c l p e u z v o f t b s : Bool, (bits .andNot .u16 (fillM c l p e u z v o f t b s) 519 != 0) = (e || u || z || v || o || f || b || s) := by decide +kernel
theorem fl_2055 : flN 2055 12 = [0, 1, 2, 11] := by decide +kernel
theorem am_2055 : ∀ c l p e u z v o f t b s : Bool, (bits .andNot .u16 (fillM c l p e u z v o f t b s) 2055 != 0) = (e || u || z || v || o || f || t || b) := by decide +kernel

/-- The kinds. -/
theorem kinds {k : Int} (h : nmP k ≠ 0) : 1 ≤ k ∧ k ≤ 14 := by
  unfold nmP at h
  split at h
  · exact absurd rfl h
  · omega

end Go.Proofs.YtldcbabgommghaaGreatDoor

/- A packet that may be is what the fields that its kind names make; its length. No Go function is walked here. -/
namespace Go.Proofs.YtldcbabgommghaaGreatDoor
open Go.RowKit
set_option maxRecDepth 8000
set_option linter.unusedVariables false

/-- A packet of a kind, and nothing else. -/
def pkZ (k : Int) : PkD := ⟨k, 0, 0, 0, 0, 0, 0, 0, 0, 0, 0, 0, false, false, txN, [], 0⟩
theorem z1 {a b : Int} (h : (!decide (a = 0 ∧ b = 0)) = false) : a = 0 ∧ b = 0 := by simpa using h
theorem z2 {a : Int} (h : (a != 0) = false) : a = 0 := by simpa using h
theorem z3 {l : List Int} (h : decide (0 < l.length) = false) : l = [] := by simpa using h
theorem z4 {b : Bool} (h : (!b) = false) : b = true := by simpa using h

theorem chk_parts {p : PkD} {tz : Bool} (h : chkP p tz = true) : (1 ≤ p.kind ∧ p.kind ≤ 14) ∧ (bits .andNot .u16 (fillP p tz) (nmP p.kind) != 0) = false ∧ ∀ j ∈ fldsP p, rgB j p = true := by
  have ha := chk_all h
  unfold chkP at h
  rw [Bool.and_eq_true, Bool.and_eq_true] at h
  exact ⟨kinds (by simpa using h.1.1), by simpa using h.1.2, ha⟩

theorem pk_ext {p q : PkD} (h0 : p.kind = q.kind) (h1 : p.cb = q.cb) (h2 : p.ct = q.ct) (h3 : p.lb = q.lb) (h4 : p.lt = q.lt) (h5 : p.place = q.place) (h6 : p.ep = q.ep) (h7 : p.cur = q.cur) (h8 : p.ze = q.ze) (h9 : p.zn = q.zn) (h10 : p.pe = q.pe) (h11 : p.pn = q.pn) (h12 : p.cnt = q.cnt) (h13 : p.fin = q.fin) (h14 : p.tx = q.tx) (h15 : p.bys = q.bys) (h16 : p.ses = q.ses) : p = q := by
  obtain ⟨⟩ := p
  obtain ⟨⟩ := q
  simp only at h0 h1 h2 h3 h4 h5 h6 h7 h8 h9 h10 h11 h12 h13 h14 h15 h16
  subst h0 h1 h2 h3 h4 h5 h6 h7 h8 h9 h10 h11 h12 h13 h14 h15 h16
  rfl

theorem fold_1 {p : PkD} {tz : Bool} (hz : tz = true ↔ p.tx = txN) (hk : p.kind = 1) (h : (bits .andNot .u16 (fillP p tz) (nmP p.kind) != 0) = false) : (fldsP p).foldl (fun d j => setF j p d) (pkZ p.kind) = p := by
  have e : nmP p.kind = 9 := by rw [hk]; decide
  rw [e] at h
  unfold fillP at h
  rw [am_9] at h
  simp only [Bool.or_eq_false_iff] at h
  obtain ⟨⟨⟨⟨⟨⟨⟨⟨⟨u1, u2⟩, u4⟩, u5⟩, u6⟩, u7⟩, u8⟩, u9⟩, u10⟩, u11⟩ := h
  show (flN (nmP p.kind) 12).foldl _ _ = p
  rw [e, fl_9]
  simp only [List.foldl_cons, List.foldl_nil, setF, pkZ]
  exact pk_ext rfl rfl rfl (z1 u1).1.symm (z1 u1).2.symm (z2 u2).symm rfl (z2 u4).symm (z1 u5).1.symm (z1 u5).2.symm (z1 u6).1.symm (z1 u6).2.symm (u7).symm (u8).symm (hz.1 (z4 u9)).symm (z3 u10).symm (z2 u11).symm

theorem fold_2 {p : PkD} {tz : Bool} (hz : tz = true ↔ p.tx = txN) (hk : p.kind = 2) (h : (bits .andNot .u16 (fillP p tz) (nmP p.kind) != 0) = false) : (fldsP p).foldl (fun d j => setF j p d) (pkZ p.kind) = p := by
  have e : nmP p.kind = 15 := by rw [hk]; decide
  rw [e] at h
  unfold fillP at h
  rw [am_15] at h
  simp only [Bool.or_eq_false_iff] at h
  obtain ⟨⟨⟨⟨⟨⟨⟨u4, u5⟩, u6⟩, u7⟩, u8⟩, u9⟩, u10⟩, u11⟩ := h
  show (flN (nmP p.kind) 12).foldl _ _ = p
  rw [e, fl_15]
  simp only [List.foldl_cons, List.foldl_nil, setF, pkZ]
  exact pk_ext rfl rfl rfl rfl rfl rfl rfl (z2 u4).symm (z1 u5).1.symm (z1 u5).2.symm (z1 u6).1.symm (z1 u6).2.symm (u7).symm (u8).symm (hz.1 (z4 u9)).symm (z3 u10).symm (z2 u11).symm

theorem fold_3 {p : PkD} {tz : Bool} (hz : tz = true ↔ p.tx = txN) (hk : p.kind = 3) (h : (bits .andNot .u16 (fillP p tz) (nmP p.kind) != 0) = false) : (fldsP p).foldl (fun d j => setF j p d) (pkZ p.kind) = p := by
  have e : nmP p.kind = 191 := by rw [hk]; decide
  rw [e] at h
  unfold fillP at h
  rw [am_191] at h
  simp only [Bool.or_eq_false_iff] at h
  obtain ⟨⟨⟨⟨u6, u8⟩, u9⟩, u10⟩, u11⟩ := h
  show (flN (nmP p.kind) 12).foldl _ _ = p
  rw [e, fl_191]
  simp only [List.foldl_cons, List.foldl_nil, setF, pkZ]
  exact pk_ext rfl rfl rfl rfl rfl rfl rfl rfl rfl rfl (z1 u6).1.symm (z1 u6).2.symm rfl (u8).symm (hz.1 (z4 u9)).symm (z3 u10).symm (z2 u11).symm

theorem fold_4 {p : PkD} {tz : Bool} (hz : tz = true ↔ p.tx = txN) (hk : p.kind = 4) (h : (bits .andNot .u16 (fillP p tz) (nmP p.kind) != 0) = false) : (fldsP p).foldl (fun d j => setF j p d) (pkZ p.kind) = p := by
  have e : nmP p.kind = 39 := by rw [hk]; decide
  rw [e] at h
  unfold fillP at h
  rw [am_39] at h
  simp only [Bool.or_eq_false_iff] at h
  obtain ⟨⟨⟨⟨⟨⟨⟨u3, u4⟩, u6⟩, u7⟩, u8⟩, u9⟩, u10⟩, u11⟩ := h
  show (flN (nmP p.kind) 12).foldl _ _ = p
  rw [e, fl_39]
  simp only [List.foldl_cons, List.foldl_nil, setF, pkZ]
  exact pk_ext rfl rfl rfl rfl rfl rfl (z2 u3).symm (z2 u4).symm rfl rfl (z1 u6).1.symm (z1 u6).2.symm (u7).symm (u8).symm (hz.1 (z4 u9)).symm (z3 u10).symm (z2 u11).symm

theorem fold_5 {p : PkD} {tz : Bool} (hz : tz = true ↔ p.tx = txN) (hk : p.kind = 5) (h : (bits .andNot .u16 (fillP p tz) (nmP p.kind) != 0) = false) : (fldsP p).foldl (fun d j => setF j p d) (pkZ p.kind) = p := by
  have e : nmP p.kind = 583 := by rw [hk]; decide
  rw [e] at h
  unfold fillP at h
  rw [am_583] at h
  simp only [Bool.or_eq_false_iff] at h
  obtain ⟨⟨⟨⟨⟨⟨u3, u4⟩, u5⟩, u7⟩, u8⟩, u10⟩, u11⟩ := h
  show (flN (nmP p.kind) 12).foldl _ _ = p
  rw [e, fl_583]
  simp only [List.foldl_cons, List.foldl_nil, setF, pkZ]
  exact pk_ext rfl rfl rfl rfl rfl rfl (z2 u3).symm (z2 u4).symm (z1 u5).1.symm (z1 u5).2.symm rfl rfl (u7).symm (u8).symm rfl (z3 u10).symm (z2 u11).symm

theorem fold_6 {p : PkD} {tz : Bool} (hz : tz = true ↔ p.tx = txN) (hk : p.kind = 6) (h : (bits .andNot .u16 (fillP p tz) (nmP p.kind) != 0) = false) : (fldsP p).foldl (fun d j => setF j p d) (pkZ p.kind) = p := by
  have e : nmP p.kind = 1287 := by rw [hk]; decide
  rw [e] at h
  unfold fillP at h
  rw [am_1287] at h
  simp only [Bool.or_eq_false_iff] at h
  obtain ⟨⟨⟨⟨⟨⟨u3, u4⟩, u5⟩, u6⟩, u7⟩, u9⟩, u11⟩ := h
  show (flN (nmP p.kind) 12).foldl _ _ = p
  rw [e, fl_1287]
  simp only [List.foldl_cons, List.foldl_nil, setF, pkZ]
  exact pk_ext rfl rfl rfl rfl rfl rfl (z2 u3).symm (z2 u4).symm (z1 u5).1.symm (z1 u5).2.symm (z1 u6).1.symm (z1 u6).2.symm (u7).symm rfl (hz.1 (z4 u9)).symm rfl (z2 u11).symm

theorem fold_7 {p : PkD} {tz : Bool} (hz : tz = true ↔ p.tx = txN) (hk : p.kind = 7) (h : (bits .andNot .u16 (fillP p tz) (nmP p.kind) != 0) = false) : (fldsP p).foldl (fun d j => setF j p d) (pkZ p.kind) = p := by
  have e : nmP p.kind = 47 := by rw [hk]; decide
  rw [e] at h
  unfold fillP at h
  rw [am_47] at h
  simp only [Bool.or_eq_false_iff] at h
  obtain ⟨⟨⟨⟨⟨⟨u4, u6⟩, u7⟩, u8⟩, u9⟩, u10⟩, u11⟩ := h
  show (flN (nmP p.kind) 12).foldl _ _ = p
  rw [e, fl_47]
  simp only [List.foldl_cons, List.foldl_nil, setF, pkZ]
  exact pk_ext rfl rfl rfl rfl rfl rfl rfl (z2 u4).symm rfl rfl (z1 u6).1.symm (z1 u6).2.symm (u7).symm (u8).symm (hz.1 (z4 u9)).symm (z3 u10).symm (z2 u11).symm

theorem fold_8 {p : PkD} {tz : Bool} (hz : tz = true ↔ p.tx = txN) (hk : p.kind = 8) (h : (bits .andNot .u16 (fillP p tz) (nmP p.kind) != 0) = false) : (fldsP p).foldl (fun d j => setF j p d) (pkZ p.kind) = p := by
  have e : nmP p.kind = 15 := by rw [hk]; decide
  rw [e] at h
  unfold fillP at h
  rw [am_15] at h
  simp only [Bool.or_eq_false_iff] at h
  obtain ⟨⟨⟨⟨⟨⟨⟨u4, u5⟩, u6⟩, u7⟩, u8⟩, u9⟩, u10⟩, u11⟩ := h
  show (flN (nmP p.kind) 12).foldl _ _ = p
  rw [e, fl_15]
  simp only [List.foldl_cons, List.foldl_nil, setF, pkZ]
  exact pk_ext rfl rfl rfl rfl rfl rfl rfl (z2 u4).symm (z1 u5).1.symm (z1 u5).2.symm (z1 u6).1.symm (z1 u6).2.symm (u7).symm (u8).symm (hz.1 (z4 u9)).symm (z3 u10).symm (z2 u11).symm

theorem fold_9 {p : PkD} {tz : Bool} (hz : tz = true ↔ p.tx = txN) (hk : p.kind = 9) (h : (bits .andNot .u16 (fillP p tz) (nmP p.kind) != 0) = false) : (fldsP p).foldl (fun d j => setF j p d) (pkZ p.kind) = p := by
  have e : nmP p.kind = 39 := by rw [hk]; decide
  rw [e] at h
  unfold fillP at h
  rw [am_39] at h
  simp only [Bool.or_eq_false_iff] at h
  obtain ⟨⟨⟨⟨⟨⟨⟨u3, u4⟩, u6⟩, u7⟩, u8⟩, u9⟩, u10⟩, u11⟩ := h
  show (flN (nmP p.kind) 12).foldl _ _ = p
  rw [e, fl_39]
  simp only [List.foldl_cons, List.foldl_nil, setF, pkZ]
  exact pk_ext rfl rfl rfl rfl rfl rfl (z2 u3).symm (z2 u4).symm rfl rfl (z1 u6).1.symm (z1 u6).2.symm (u7).symm (u8).symm (hz.1 (z4 u9)).symm (z3 u10).symm (z2 u11).symm

theorem fold_10 {p : PkD} {tz : Bool} (hz : tz = true ↔ p.tx = txN) (hk : p.kind = 10) (h : (bits .andNot .u16 (fillP p tz) (nmP p.kind) != 0) = false) : (fldsP p).foldl (fun d j => setF j p d) (pkZ p.kind) = p := by
  have e : nmP p.kind = 583 := by rw [hk]; decide
  rw [e] at h
  unfold fillP at h
  rw [am_583] at h
  simp only [Bool.or_eq_false_iff] at h
  obtain ⟨⟨⟨⟨⟨⟨u3, u4⟩, u5⟩, u7⟩, u8⟩, u10⟩, u11⟩ := h
  show (flN (nmP p.kind) 12).foldl _ _ = p
  rw [e, fl_583]
  simp only [List.foldl_cons, List.foldl_nil, setF, pkZ]
  exact pk_ext rfl rfl rfl rfl rfl rfl (z2 u3).symm (z2 u4).symm (z1 u5).1.symm (z1 u5).2.symm rfl rfl (u7).symm (u8).symm rfl (z3 u10).symm (z2 u11).symm

theorem fold_11 {p : PkD} {tz : Bool} (hz : tz = true ↔ p.tx = txN) (hk : p.kind = 11) (h : (bits .andNot .u16 (fillP p tz) (nmP p.kind) != 0) = false) : (fldsP p).foldl (fun d j => setF j p d) (pkZ p.kind) = p := by
  have e : nmP p.kind = 39 := by rw [hk]; decide
  rw [e] at h
  unfold fillP at h
  rw [am_39] at h
  simp only [Bool.or_eq_false_iff] at h
  obtain ⟨⟨⟨⟨⟨⟨⟨u3, u4⟩, u6⟩, u7⟩, u8⟩, u9⟩, u10⟩, u11⟩ := h
  show (flN (nmP p.kind) 12).foldl _ _ = p
  rw [e, fl_39]
  simp only [List.foldl_cons, List.foldl_nil, setF, pkZ]
  exact pk_ext rfl rfl rfl rfl rfl rfl (z2 u3).symm (z2 u4).symm rfl rfl (z1 u6).1.symm (z1 u6).2.symm (u7).symm (u8).symm (hz.1 (z4 u9)).symm (z3 u10).symm (z2 u11).symm

theorem fold_12 {p : PkD} {tz : Bool} (hz : tz = true ↔ p.tx = txN) (hk : p.kind = 12) (h : (bits .andNot .u16 (fillP p tz) (nmP p.kind) != 0) = false) : (fldsP p).foldl (fun d j => setF j p d) (pkZ p.kind) = p := by
  have e : nmP p.kind = 39 := by rw [hk]; decide
  rw [e] at h
  unfold fillP at h
  rw [am_39] at h
  simp only [Bool.or_eq_false_iff] at h
  obtain ⟨⟨⟨⟨⟨⟨⟨u3, u4⟩, u6⟩, u7⟩, u8⟩, u9⟩, u10⟩, u11⟩ := h
  show (flN (nmP p.kind) 12).foldl _ _ = p
  rw [e, fl_39]
  simp only [List.foldl_cons, List.foldl_nil, setF, pkZ]
  exact pk_ext rfl rfl rfl rfl rfl rfl (z2 u3).symm (z2 u4).symm rfl rfl (z1 u6).1.symm (z1 u6).2.symm (u7).symm (u8).symm (hz.1 (z4 u9)).symm (z3 u10).symm (z2 u11).symm

theorem fold_13 {p : PkD} {tz : Bool} (hz : tz = true ↔ p.tx = txN) (hk : p.kind = 13) (h : (bits .andNot .u16 (fillP p tz) (nmP p.kind) != 0) = false) : (fldsP p).foldl (fun d j => setF j p d) (pkZ p.kind) = p := by
  have e : nmP p.kind = 519 := by rw [hk]; decide
  rw [e] at h
  unfold fillP at h
  rw [am_519] at h
  simp only [Bool.or_eq_false_iff] at h
  obtain ⟨⟨⟨⟨⟨⟨⟨u3, u4⟩, u5⟩, u6⟩, u7⟩, u8⟩, u10⟩, u11⟩ := h
  show (flN (nmP p.kind) 12).foldl _ _ = p
  rw [e, fl_519]
  simp only [List.foldl_cons, List.foldl_nil, setF, pkZ]
  exact pk_ext rfl rfl rfl rfl rfl rfl (z2 u3).symm (z2 u4).symm (z1 u5).1.symm (z1 u5).2.symm (z1 u6).1.symm (z1 u6).2.symm (u7).symm (u8).symm rfl (z3 u10).symm (z2 u11).symm

theorem fold_14 {p : PkD} {tz : Bool} (hz : tz = true ↔ p.tx = txN) (hk : p.kind = 14) (h : (bits .andNot .u16 (fillP p tz) (nmP p.kind) != 0) = false) : (fldsP p).foldl (fun d j => setF j p d) (pkZ p.kind) = p := by
  have e : nmP p.kind = 2055 := by rw [hk]; decide
  rw [e] at h
  unfold fillP at h
  rw [am_2055] at h
  simp only [Bool.or_eq_false_iff] at h
  obtain ⟨⟨⟨⟨⟨⟨⟨u3, u4⟩, u5⟩, u6⟩, u7⟩, u8⟩, u9⟩, u10⟩ := h
  show (flN (nmP p.kind) 12).foldl _ _ = p
  rw [e, fl_2055]
  simp only [List.foldl_cons, List.foldl_nil, setF, pkZ]
  exact pk_ext rfl rfl rfl rfl rfl rfl (z2 u3).symm (z2 u4).symm (z1 u5).1.symm (z1 u5).2.symm (z1 u6).1.symm (z1 u6).2.symm (u7).symm (u8).symm (hz.1 (z4 u9)).symm (z3 u10).symm rfl

theorem pk_fold {p : PkD} {tz : Bool} (hz : tz = true ↔ p.tx = txN) (h : chkP p tz = true) : (fldsP p).foldl (fun d j => setF j p d) (pkZ p.kind) = p := by
  obtain ⟨⟨a, b⟩, c, _⟩ := chk_parts h
  have : p.kind = 1 ∨ p.kind = 2 ∨ p.kind = 3 ∨ p.kind = 4 ∨ p.kind = 5 ∨ p.kind = 6 ∨ p.kind = 7 ∨ p.kind = 8 ∨ p.kind = 9 ∨ p.kind = 10 ∨ p.kind = 11 ∨ p.kind = 12 ∨ p.kind = 13 ∨ p.kind = 14 := by omega
  rcases this with hk | hk | hk | hk | hk | hk | hk | hk | hk | hk | hk | hk | hk | hk
  · exact fold_1 hz hk c
  · exact fold_2 hz hk c
  · exact fold_3 hz hk c
  · exact fold_4 hz hk c
  · exact fold_5 hz hk c
  · exact fold_6 hz hk c
  · exact fold_7 hz hk c
  · exact fold_8 hz hk c
  · exact fold_9 hz hk c
  · exact fold_10 hz hk c
  · exact fold_11 hz hk c
  · exact fold_12 hz hk c
  · exact fold_13 hz hk c
  · exact fold_14 hz hk c

theorem len_1 {p : PkD} (hk : p.kind = 1) (h : ∀ j ∈ fldsP p, rgB j p = true) : (bodyP p).length ≤ 5000 := by
  have e : nmP p.kind = 9 := by rw [hk]; decide
  have ef : fldsP p = [0, 3] := by show flN (nmP p.kind) 12 = _; rw [e, fl_9]
  unfold bodyP
  rw [ef]
  simp only [List.flatMap_cons, List.flatMap_nil, List.length_append, List.length_cons, List.length_nil]
  have l0 : (fdB 0 p).length = 8 := rfl
  have l3 : (fdB 3 p).length = 4 := rfl
  omega

theorem len_2 {p : PkD} (hk : p.kind = 2) (h : ∀ j ∈ fldsP p, rgB j p = true) : (bodyP p).length ≤ 5000 := by
  have e : nmP p.kind = 15 := by rw [hk]; decide
  have ef : fldsP p = [0, 1, 2, 3] := by show flN (nmP p.kind) 12 = _; rw [e, fl_15]
  unfold bodyP
  rw [ef]
  simp only [List.flatMap_cons, List.flatMap_nil, List.length_append, List.length_cons, List.length_nil]
  have l0 : (fdB 0 p).length = 8 := rfl
  have l1 : (fdB 1 p).length = 8 := rfl
  have l2 : (fdB 2 p).length = 8 := rfl
  have l3 : (fdB 3 p).length = 4 := rfl
  omega

theorem len_3 {p : PkD} (hk : p.kind = 3) (h : ∀ j ∈ fldsP p, rgB j p = true) : (bodyP p).length ≤ 5000 := by
  have e : nmP p.kind = 191 := by rw [hk]; decide
  have ef : fldsP p = [0, 1, 2, 3, 4, 5, 7] := by show flN (nmP p.kind) 12 = _; rw [e, fl_191]
  unfold bodyP
  rw [ef]
  simp only [List.flatMap_cons, List.flatMap_nil, List.length_append, List.length_cons, List.length_nil]
  have l0 : (fdB 0 p).length = 8 := rfl
  have l1 : (fdB 1 p).length = 8 := rfl
  have l2 : (fdB 2 p).length = 8 := rfl
  have l3 : (fdB 3 p).length = 4 := rfl
  have l4 : (fdB 4 p).length = 4 := rfl
  have l5 : (fdB 5 p).length = 8 := rfl
  have l7 : (fdB 7 p).length = 1 := rfl
  omega

theorem len_4 {p : PkD} (hk : p.kind = 4) (h : ∀ j ∈ fldsP p, rgB j p = true) : (bodyP p).length ≤ 5000 := by
  have e : nmP p.kind = 39 := by rw [hk]; decide
  have ef : fldsP p = [0, 1, 2, 5] := by show flN (nmP p.kind) 12 = _; rw [e, fl_39]
  unfold bodyP
  rw [ef]
  simp only [List.flatMap_cons, List.flatMap_nil, List.length_append, List.length_cons, List.length_nil]
  have l0 : (fdB 0 p).length = 8 := rfl
  have l1 : (fdB 1 p).length = 8 := rfl
  have l2 : (fdB 2 p).length = 8 := rfl
  have l5 : (fdB 5 p).length = 8 := rfl
  omega

theorem len_5 {p : PkD} (hk : p.kind = 5) (h : ∀ j ∈ fldsP p, rgB j p = true) : (bodyP p).length ≤ 5000 := by
  have e : nmP p.kind = 583 := by rw [hk]; decide
  have ef : fldsP p = [0, 1, 2, 6, 9] := by show flN (nmP p.kind) 12 = _; rw [e, fl_583]
  have b9 := fdB_len 9 p (h 9 (by rw [ef]; decide))
  unfold bodyP
  rw [ef]
  simp only [List.flatMap_cons, List.flatMap_nil, List.length_append, List.length_cons, List.length_nil]
  have l0 : (fdB 0 p).length = 8 := rfl
  have l1 : (fdB 1 p).length = 8 := rfl
  have l2 : (fdB 2 p).length = 8 := rfl
  have l6 : (fdB 6 p).length = 8 := rfl
  omega

theorem len_6 {p : PkD} (hk : p.kind = 6) (h : ∀ j ∈ fldsP p, rgB j p = true) : (bodyP p).length ≤ 5000 := by
  have e : nmP p.kind = 1287 := by rw [hk]; decide
  have ef : fldsP p = [0, 1, 2, 8, 10] := by show flN (nmP p.kind) 12 = _; rw [e, fl_1287]
  have b10 := fdB_len 10 p (h 10 (by rw [ef]; decide))
  unfold bodyP
  rw [ef]
  simp only [List.flatMap_cons, List.flatMap_nil, List.length_append, List.length_cons, List.length_nil]
  have l0 : (fdB 0 p).length = 8 := rfl
  have l1 : (fdB 1 p).length = 8 := rfl
  have l2 : (fdB 2 p).length = 8 := rfl
  have l8 : (fdB 8 p).length = 1 := rfl
  omega

theorem len_7 {p : PkD} (hk : p.kind = 7) (h : ∀ j ∈ fldsP p, rgB j p = true) : (bodyP p).length ≤ 5000 := by
  have e : nmP p.kind = 47 := by rw [hk]; decide
  have ef : fldsP p = [0, 1, 2, 3, 5] := by show flN (nmP p.kind) 12 = _; rw [e, fl_47]
  unfold bodyP
  rw [ef]
  simp only [List.flatMap_cons, List.flatMap_nil, List.length_append, List.length_cons, List.length_nil]
  have l0 : (fdB 0 p).length = 8 := rfl
  have l1 : (fdB 1 p).length = 8 := rfl
  have l2 : (fdB 2 p).length = 8 := rfl
  have l3 : (fdB 3 p).length = 4 := rfl
  have l5 : (fdB 5 p).length = 8 := rfl
  omega

theorem len_8 {p : PkD} (hk : p.kind = 8) (h : ∀ j ∈ fldsP p, rgB j p = true) : (bodyP p).length ≤ 5000 := by
  have e : nmP p.kind = 15 := by rw [hk]; decide
  have ef : fldsP p = [0, 1, 2, 3] := by show flN (nmP p.kind) 12 = _; rw [e, fl_15]
  unfold bodyP
  rw [ef]
  simp only [List.flatMap_cons, List.flatMap_nil, List.length_append, List.length_cons, List.length_nil]
  have l0 : (fdB 0 p).length = 8 := rfl
  have l1 : (fdB 1 p).length = 8 := rfl
  have l2 : (fdB 2 p).length = 8 := rfl
  have l3 : (fdB 3 p).length = 4 := rfl
  omega

theorem len_9 {p : PkD} (hk : p.kind = 9) (h : ∀ j ∈ fldsP p, rgB j p = true) : (bodyP p).length ≤ 5000 := by
  have e : nmP p.kind = 39 := by rw [hk]; decide
  have ef : fldsP p = [0, 1, 2, 5] := by show flN (nmP p.kind) 12 = _; rw [e, fl_39]
  unfold bodyP
  rw [ef]
  simp only [List.flatMap_cons, List.flatMap_nil, List.length_append, List.length_cons, List.length_nil]
  have l0 : (fdB 0 p).length = 8 := rfl
  have l1 : (fdB 1 p).length = 8 := rfl
  have l2 : (fdB 2 p).length = 8 := rfl
  have l5 : (fdB 5 p).length = 8 := rfl
  omega

theorem len_10 {p : PkD} (hk : p.kind = 10) (h : ∀ j ∈ fldsP p, rgB j p = true) : (bodyP p).length ≤ 5000 := by
  have e : nmP p.kind = 583 := by rw [hk]; decide
  have ef : fldsP p = [0, 1, 2, 6, 9] := by show flN (nmP p.kind) 12 = _; rw [e, fl_583]
  have b9 := fdB_len 9 p (h 9 (by rw [ef]; decide))
  unfold bodyP
  rw [ef]
  simp only [List.flatMap_cons, List.flatMap_nil, List.length_append, List.length_cons, List.length_nil]
  have l0 : (fdB 0 p).length = 8 := rfl
  have l1 : (fdB 1 p).length = 8 := rfl
  have l2 : (fdB 2 p).length = 8 := rfl
  have l6 : (fdB 6 p).length = 8 := rfl
  omega

theorem len_11 {p : PkD} (hk : p.kind = 11) (h : ∀ j ∈ fldsP p, rgB j p = true) : (bodyP p).length ≤ 5000 := by
  have e : nmP p.kind = 39 := by rw [hk]; decide
  have ef : fldsP p = [0, 1, 2, 5] := by show flN (nmP p.kind) 12 = _; rw [e, fl_39]
  unfold bodyP
  rw [ef]
  simp only [List.flatMap_cons, List.flatMap_nil, List.length_append, List.length_cons, List.length_nil]
  have l0 : (fdB 0 p).length = 8 := rfl
  have l1 : (fdB 1 p).length = 8 := rfl
  have l2 : (fdB 2 p).length = 8 := rfl
  have l5 : (fdB 5 p).length = 8 := rfl
  omega

theorem len_12 {p : PkD} (hk : p.kind = 12) (h : ∀ j ∈ fldsP p, rgB j p = true) : (bodyP p).length ≤ 5000 := by
  have e : nmP p.kind = 39 := by rw [hk]; decide
  have ef : fldsP p = [0, 1, 2, 5] := by show flN (nmP p.kind) 12 = _; rw [e, fl_39]
  unfold bodyP
  rw [ef]
  simp only [List.flatMap_cons, List.flatMap_nil, List.length_append, List.length_cons, List.length_nil]
  have l0 : (fdB 0 p).length = 8 := rfl
  have l1 : (fdB 1 p).length = 8 := rfl
  have l2 : (fdB 2 p).length = 8 := rfl
  have l5 : (fdB 5 p).length = 8 := rfl
  omega

theorem len_13 {p : PkD} (hk : p.kind = 13) (h : ∀ j ∈ fldsP p, rgB j p = true) : (bodyP p).length ≤ 5000 := by
  have e : nmP p.kind = 519 := by rw [hk]; decide
  have ef : fldsP p = [0, 1, 2, 9] := by show flN (nmP p.kind) 12 = _; rw [e, fl_519]
  have b9 := fdB_len 9 p (h 9 (by rw [ef]; decide))
  unfold bodyP
  rw [ef]
  simp only [List.flatMap_cons, List.flatMap_nil, List.length_append, List.length_cons, List.length_nil]
  have l0 : (fdB 0 p).length = 8 := rfl
  have l1 : (fdB 1 p).length = 8 := rfl
  have l2 : (fdB 2 p).length = 8 := rfl
  omega

theorem len_14 {p : PkD} (hk : p.kind = 14) (h : ∀ j ∈ fldsP p, rgB j p = true) : (bodyP p).length ≤ 5000 := by
  have e : nmP p.kind = 2055 := by rw [hk]; decide
  have ef : fldsP p = [0, 1, 2, 11] := by show flN (nmP p.kind) 12 = _; rw [e, fl_2055]
  unfold bodyP
  rw [ef]
  simp only [List.flatMap_cons, List.flatMap_nil, List.length_append, List.length_cons, List.length_nil]
  have l0 : (fdB 0 p).length = 8 := rfl
  have l1 : (fdB 1 p).length = 8 := rfl
  have l2 : (fdB 2 p).length = 8 := rfl
  have l11 : (fdB 11 p).length = 8 := rfl
  omega

theorem body_le {p : PkD} {tz : Bool} (h : chkP p tz = true) : (bodyP p).length ≤ 5000 := by
  obtain ⟨⟨a, b⟩, _, c⟩ := chk_parts h
  have : p.kind = 1 ∨ p.kind = 2 ∨ p.kind = 3 ∨ p.kind = 4 ∨ p.kind = 5 ∨ p.kind = 6 ∨ p.kind = 7 ∨ p.kind = 8 ∨ p.kind = 9 ∨ p.kind = 10 ∨ p.kind = 11 ∨ p.kind = 12 ∨ p.kind = 13 ∨ p.kind = 14 := by omega
  rcases this with hk | hk | hk | hk | hk | hk | hk | hk | hk | hk | hk | hk | hk | hk
  · exact len_1 hk c
  · exact len_2 hk c
  · exact len_3 hk c
  · exact len_4 hk c
  · exact len_5 hk c
  · exact len_6 hk c
  · exact len_7 hk c
  · exact len_8 hk c
  · exact len_9 hk c
  · exact len_10 hk c
  · exact len_11 hk c
  · exact len_12 hk c
  · exact len_13 hk c
  · exact len_14 hk c

end Go.Proofs.YtldcbabgommghaaGreatDoor
