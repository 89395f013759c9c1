/- What the rows of package packet read of bytes that were laid: the twelve get functions. -/
import Derived.Test.YtochbjafdcbckaaGreatDoorWfAJ
import Derived.Test.YtochbjafdcbckaaGreatDoorWfLJ
import Derived.Test.YtochbjafdcbckaaGreatDoorPkFJ
import Derived.Deep.MidRow
namespace Go.Proofs.YtochbjafdcbckaaGreatDoor
open Go.RowKit
set_option maxRecDepth 8000

/-- A packet's field, taken over. -/
def setF (j : Nat) (p d : PkD) : PkD := match j with
  | 0 => { d with cb := p.cb, ct := p.ct } | 1 => { d with lb := p.lb, lt := p.lt } | 2 => { d with place := p.place } | 3 => { d with ep := p.ep } | 4 => { d with cur := p.cur } | 5 => { d with ze := p.ze, zn := p.zn } | 6 => { d with pe := p.pe, pn := p.pn }
  | 7 => { d with cnt := p.cnt } | 8 => { d with fin := p.fin } | 9 => { d with tx := p.tx } | 10 => { d with bys := p.bys } | _ => { d with ses := p.ses }

/-- A packet in its place, its lists in other blocks than these two, behind a third. -/
structure InPk (w : World) (g q r : Nat) (tc : List Value) (bv : Value) (d : PkD) : Prop where
  at_ : PkAt w q d tc bv
  tx : ∃ rc, tc = txHead d.tx ++ rc ∧ RqIn w (fun k => k ≠ g ∧ k ≠ q ∧ r < k) rc d.tx.rq
  bys : Sees w bv d.bys
  apart : ∀ k, bv.ownBlock = some k → k ≠ g ∧ k ≠ q ∧ r < k

theorem InPk.len {w : World} {g q r : Nat} {tc : List Value} {bv : Value} {d : PkD} (h : InPk w g q r tc bv d) : tc.length = 16 := by
  obtain ⟨rc, rfl, hr⟩ := h.tx
  have := hr.sees.len
  simp [txHead, this]

/-- Nothing of its lists was touched, and it lies there with other numbers. -/
theorem InPk.turn {w w' : World} {g q r : Nat} {tc : List Value} {bv : Value} {d d' : PkD} (h : InPk w g q r tc bv d) (hk : Kept w w' (fun k => k = g ∨ k = q)) (ha : PkAt w' q d' tc bv) (ht : d'.tx = d.tx) (hb : d'.bys = d.bys) : InPk w' g q r tc bv d' := by
  obtain ⟨rc, e, hr⟩ := h.tx
  refine ⟨ha, ⟨rc, by rw [ht]; exact e, by rw [ht]; exact hr.kept hk (fun k hF => ⟨fun e => by rcases e with e | e; (· exact hF.1 e); (· exact hF.2.1 e), hF⟩)⟩, by rw [hb]; exact h.bys.kept hk (fun k e h' => by have := h.apart k e; rcases h' with h' | h'; (· exact this.1 h'); (· exact this.2.1 h')), h.apart⟩

/-- What a reading of a field leaves. -/
def Gets (w : World) (g q r : Nat) (v : Value) (d : PkD) (rest : List Int) (w' : World) : Prop :=
  ∃ tc bv v', InPk w' g q r tc bv d ∧ IsR w' g v' rest 0 ∧ (∀ k, v'.ownBlock = some k → v.ownBlock = some k) ∧ Kept w w' (fun k => k = g ∨ k = q)

theorem getPair_bk (g : Nat) (v : Value) (a b : Int) (rest : List Int) (w : World) (h : IsR w g v ((be4 a ++ be4 b) ++ rest) 0) (hb : Byts ((be4 a ++ be4 b) ++ rest)) :
    Calls Tryz.prog 63 #[.pointer (some ⟨g, 0, none⟩)] w fun e w' => e = .returned (.tuple #[.int .u32 a, .int .u32 b]) ∧ ReadsTo w g v ⟨0, rest, 0⟩ w' := by
  rw [List.append_assoc] at h hb
  have H : Hid (IsR w g v (be4 a ++ (be4 b ++ rest)) 0 ∧ Byts (be4 a ++ (be4 b ++ rest))) := ⟨h, hb⟩
  clear h hb
  go_enter Tryz.func63, Tryz.ntmps63
  go_wp2_with fail
  refine (gU32 (g := g) (v := v) a H.out.1 H.out.2).mono ?_
  rintro _ w1 ⟨rfl, v1, h1, h2, h3⟩
  have H1 : Hid (IsR w1 g v1 (be4 b ++ rest) 0 ∧ Byts (be4 b ++ rest) ∧ (∀ k, v1.ownBlock = some k → v.ownBlock = some k) ∧ Kept w w1 (· = g)) := ⟨h1, Byts.right H.out.2, h2, h3⟩
  clear h1 h2 h3 H
  go_wp2_with fail
  refine (gU32 (g := g) (v := v1) b H1.out.1 H1.out.2.1).mono ?_
  rintro _ w2 ⟨rfl, hr⟩
  have HF : Hid (ReadsTo w g v ⟨0, rest, 0⟩ w2) := ReadsTo.next H1.out.2.2.2 H1.out.2.2.1 hr
  clear hr H1
  go_wp2_with fail
  go_ret2
  exact ⟨rfl, HF.out⟩

theorem IsR.aside {w w' : World} {g q : Nat} {v : Value} {xs : List Int} {f : Int} (h : IsR w g v xs f) (hk : Kept w w' (· = q)) (hg : g ≠ q) (hv : ∀ k, v.ownBlock = some k → k ≠ q) : IsR w' g v xs f := h.kept hk hg (fun k e => hv k e)

theorem set31 (d : PkD) (tc : List Value) (bv : Value) (s : Int) (hl : tc.length = 16) : (pkL d tc bv).toArray.setIfInBounds 31 (.int .i64 s) = (pkL { d with ses := s } tc bv).toArray := by
  rw [List.setIfInBounds_toArray]
  congr 1
  show _ :: _ :: _ :: _ :: _ :: _ :: _ :: _ :: _ :: _ :: _ :: _ :: _ :: _ :: ((tc ++ [bv, .int .i64 d.ses]).set 17 (.int .i64 s)) = _
  rw [List.set_append_right _ _ (by omega), hl]
  rfl

section
variable (p : PkD) (g q r : Nat) (v : Value) (d : PkD) (tc : List Value) (bv : Value) (rest : List Int) (w : World)

set_option maxHeartbeats 400000 in
theorem gt0 (h : IsR w g v (fdB 0 p ++ rest) 0) (hb : Byts (fdB 0 p ++ rest)) (hi : InPk w g q r tc bv d) (hgq : g ≠ q) (hv : ∀ k, v.ownBlock = some k → k ≠ q ∧ r < k) : Calls Tryz.prog 62 #[.pointer (some ⟨g, 0, none⟩), .pointer (some ⟨q, 0, none⟩)] w fun e w' => e = .returned (.tuple #[]) ∧ Gets w g q r v (setF 0 p d) rest w' := by
  have H : Hid (IsR w g v ((be4 p.cb ++ be4 p.ct) ++ rest) 0 ∧ Byts ((be4 p.cb ++ be4 p.ct) ++ rest) ∧ InPk w g q r tc bv d ∧ g ≠ q ∧ ∀ k, v.ownBlock = some k → k ≠ q ∧ r < k) := ⟨h, hb, hi, hgq, hv⟩
  clear h hb hi hgq hv
  go_enter Tryz.func62, Tryz.ntmps62
  go_wp2_with fail
  refine (getPair_bk g v p.cb p.ct rest w H.out.1 H.out.2.1).mono ?_
  rintro _ w1 ⟨rfl, v1, h1, h2, h3⟩
  have hrow : w1.heap[q]? = some (.cells (pkL d tc bv).toArray 39 (0, 0)) := h3.heap H.out.2.2.1.at_ (fun e => H.out.2.2.2.1 e.symm)
  have c1 : w1.cell? ⟨q, 1, none⟩ = some (.int .u32 d.cb) := pk_at hrow rfl
  have f1 := frozen_of_row w1 q 1 _ _ hrow
  have c2 : w1.cell? ⟨q, 2, none⟩ = some (.int .u32 d.ct) := pk_at hrow rfl
  have f2 := frozen_of_row w1 q 2 _ _ hrow
  have HF : Hid (Gets w g q r v (setF 0 p d) rest ((w1.setCell ⟨q, 1, none⟩ (.int .u32 p.cb)).setCell ⟨q, 2, none⟩ (.int .u32 p.ct))) := by
    have k2 : Kept w1 ((w1.setCell ⟨q, 1, none⟩ (.int .u32 p.cb)).setCell ⟨q, 2, none⟩ (.int .u32 p.ct)) (fun k => k = q) := (((Kept.refl w1 (fun k => k = q)).setCell ⟨q, 1, none⟩ (.int .u32 p.cb) (fun _ => rfl)).setCell ⟨q, 2, none⟩ (.int .u32 p.ct) (fun _ => rfl))
    have k3 : Kept w ((w1.setCell ⟨q, 1, none⟩ (.int .u32 p.cb)).setCell ⟨q, 2, none⟩ (.int .u32 p.ct)) (fun k => k = g ∨ k = q) := (h3.mono (fun k _ e => Or.inl e)).trans k2 (fun k _ e => .inr e)
    have hat : PkAt ((w1.setCell ⟨q, 1, none⟩ (.int .u32 p.cb)).setCell ⟨q, 2, none⟩ (.int .u32 p.ct)) q (setF 0 p d) tc bv := (heap_setR (i := 2) (.int .u32 p.ct) (heap_setR (i := 1) (.int .u32 p.cb) hrow))
    exact ⟨tc, bv, v1, H.out.2.2.1.turn k3 hat rfl rfl, IsR.aside h1 k2 H.out.2.2.2.1 (fun k e => (H.out.2.2.2.2 k (h2 k e)).1), h2, k3⟩
  clear h1 h2 h3 hrow H
  go_wp2_with fail
  go_end0
  exact ⟨rfl, HF.out⟩

set_option maxHeartbeats 400000 in
theorem gt1 (h : IsR w g v (fdB 1 p ++ rest) 0) (hb : Byts (fdB 1 p ++ rest)) (hi : InPk w g q r tc bv d) (hgq : g ≠ q) (hv : ∀ k, v.ownBlock = some k → k ≠ q ∧ r < k) : Calls Tryz.prog 66 #[.pointer (some ⟨g, 0, none⟩), .pointer (some ⟨q, 0, none⟩)] w fun e w' => e = .returned (.tuple #[]) ∧ Gets w g q r v (setF 1 p d) rest w' := by
  have H : Hid (IsR w g v ((be4 p.lb ++ be4 p.lt) ++ rest) 0 ∧ Byts ((be4 p.lb ++ be4 p.lt) ++ rest) ∧ InPk w g q r tc bv d ∧ g ≠ q ∧ ∀ k, v.ownBlock = some k → k ≠ q ∧ r < k) := ⟨h, hb, hi, hgq, hv⟩
  clear h hb hi hgq hv
  go_enter Tryz.func66, Tryz.ntmps66
  go_wp2_with fail
  refine (getPair_bk g v p.lb p.lt rest w H.out.1 H.out.2.1).mono ?_
  rintro _ w1 ⟨rfl, v1, h1, h2, h3⟩
  have hrow : w1.heap[q]? = some (.cells (pkL d tc bv).toArray 39 (0, 0)) := h3.heap H.out.2.2.1.at_ (fun e => H.out.2.2.2.1 e.symm)
  have c3 : w1.cell? ⟨q, 3, none⟩ = some (.int .u32 d.lb) := pk_at hrow rfl
  have f3 := frozen_of_row w1 q 3 _ _ hrow
  have c4 : w1.cell? ⟨q, 4, none⟩ = some (.int .u32 d.lt) := pk_at hrow rfl
  have f4 := frozen_of_row w1 q 4 _ _ hrow
  have HF : Hid (Gets w g q r v (setF 1 p d) rest ((w1.setCell ⟨q, 3, none⟩ (.int .u32 p.lb)).setCell ⟨q, 4, none⟩ (.int .u32 p.lt))) := by
    have k2 : Kept w1 ((w1.setCell ⟨q, 3, none⟩ (.int .u32 p.lb)).setCell ⟨q, 4, none⟩ (.int .u32 p.lt)) (fun k => k = q) := (((Kept.refl w1 (fun k => k = q)).setCell ⟨q, 3, none⟩ (.int .u32 p.lb) (fun _ => rfl)).setCell ⟨q, 4, none⟩ (.int .u32 p.lt) (fun _ => rfl))
    have k3 : Kept w ((w1.setCell ⟨q, 3, none⟩ (.int .u32 p.lb)).setCell ⟨q, 4, none⟩ (.int .u32 p.lt)) (fun k => k = g ∨ k = q) := (h3.mono (fun k _ e => Or.inl e)).trans k2 (fun k _ e => .inr e)
    have hat : PkAt ((w1.setCell ⟨q, 3, none⟩ (.int .u32 p.lb)).setCell ⟨q, 4, none⟩ (.int .u32 p.lt)) q (setF 1 p d) tc bv := (heap_setR (i := 4) (.int .u32 p.lt) (heap_setR (i := 3) (.int .u32 p.lb) hrow))
    exact ⟨tc, bv, v1, H.out.2.2.1.turn k3 hat rfl rfl, IsR.aside h1 k2 H.out.2.2.2.1 (fun k e => (H.out.2.2.2.2 k (h2 k e)).1), h2, k3⟩
  clear h1 h2 h3 hrow H
  go_wp2_with fail
  go_end0
  exact ⟨rfl, HF.out⟩

set_option maxHeartbeats 400000 in
theorem gt2 (hg : p.good) (h : IsR w g v (fdB 2 p ++ rest) 0) (hb : Byts (fdB 2 p ++ rest)) (hi : InPk w g q r tc bv d) (hgq : g ≠ q) (hv : ∀ k, v.ownBlock = some k → k ≠ q ∧ r < k) : Calls Tryz.prog 70 #[.pointer (some ⟨g, 0, none⟩), .pointer (some ⟨q, 0, none⟩)] w fun e w' => e = .returned (.tuple #[]) ∧ Gets w g q r v (setF 2 p d) rest w' := by
  have H : Hid (IsR w g v (be8 (up64 p.place) ++ rest) 0 ∧ Byts (be8 (up64 p.place) ++ rest) ∧ InPk w g q r tc bv d ∧ g ≠ q ∧ ∀ k, v.ownBlock = some k → k ≠ q ∧ r < k) := ⟨h, hb, hi, hgq, hv⟩
  have HG : Hid (-9223372036854775808 ≤ p.place ∧ p.place ≤ 9223372036854775807) := ⟨hg.pl0, hg.pl1⟩
  clear hg
  clear h hb hi hgq hv
  go_enter Tryz.func70, Tryz.ntmps70
  go_wp2_with fail
  refine (gI64 (g := g) (v := v) (w := w) p.place H.out.1 H.out.2.1 HG.out.1 HG.out.2).mono ?_
  rintro _ w1 ⟨rfl, v1, h1, h2, h3⟩
  have hrow : w1.heap[q]? = some (.cells (pkL d tc bv).toArray 39 (0, 0)) := h3.heap H.out.2.2.1.at_ (fun e => H.out.2.2.2.1 e.symm)
  have c5 : w1.cell? ⟨q, 5, none⟩ = some (.int .i64 d.place) := pk_at hrow rfl
  have f5 := frozen_of_row w1 q 5 _ _ hrow
  have HF : Hid (Gets w g q r v (setF 2 p d) rest (w1.setCell ⟨q, 5, none⟩ (.int .i64 p.place))) := by
    have k2 : Kept w1 (w1.setCell ⟨q, 5, none⟩ (.int .i64 p.place)) (fun k => k = q) := ((Kept.refl w1 (fun k => k = q)).setCell ⟨q, 5, none⟩ (.int .i64 p.place) (fun _ => rfl))
    have k3 : Kept w (w1.setCell ⟨q, 5, none⟩ (.int .i64 p.place)) (fun k => k = g ∨ k = q) := (h3.mono (fun k _ e => Or.inl e)).trans k2 (fun k _ e => .inr e)
    have hat : PkAt (w1.setCell ⟨q, 5, none⟩ (.int .i64 p.place)) q (setF 2 p d) tc bv := (heap_setR (i := 5) (.int .i64 p.place) hrow)
    exact ⟨tc, bv, v1, H.out.2.2.1.turn k3 hat rfl rfl, IsR.aside h1 k2 H.out.2.2.2.1 (fun k e => (H.out.2.2.2.2 k (h2 k e)).1), h2, k3⟩
  clear h1 h2 h3 hrow H
  go_wp2_with fail
  go_end0
  exact ⟨rfl, HF.out⟩

set_option maxHeartbeats 400000 in
theorem gt3 (h : IsR w g v (fdB 3 p ++ rest) 0) (hb : Byts (fdB 3 p ++ rest)) (hi : InPk w g q r tc bv d) (hgq : g ≠ q) (hv : ∀ k, v.ownBlock = some k → k ≠ q ∧ r < k) : Calls Tryz.prog 74 #[.pointer (some ⟨g, 0, none⟩), .pointer (some ⟨q, 0, none⟩)] w fun e w' => e = .returned (.tuple #[]) ∧ Gets w g q r v (setF 3 p d) rest w' := by
  have H : Hid (IsR w g v (be4 p.ep ++ rest) 0 ∧ Byts (be4 p.ep ++ rest) ∧ InPk w g q r tc bv d ∧ g ≠ q ∧ ∀ k, v.ownBlock = some k → k ≠ q ∧ r < k) := ⟨h, hb, hi, hgq, hv⟩
  clear h hb hi hgq hv
  go_enter Tryz.func74, Tryz.ntmps74
  go_wp2_with fail
  refine (gU32 (g := g) (v := v) (w := w) p.ep H.out.1 H.out.2.1).mono ?_
  rintro _ w1 ⟨rfl, v1, h1, h2, h3⟩
  have hrow : w1.heap[q]? = some (.cells (pkL d tc bv).toArray 39 (0, 0)) := h3.heap H.out.2.2.1.at_ (fun e => H.out.2.2.2.1 e.symm)
  have c6 : w1.cell? ⟨q, 6, none⟩ = some (.int .u32 d.ep) := pk_at hrow rfl
  have f6 := frozen_of_row w1 q 6 _ _ hrow
  have HF : Hid (Gets w g q r v (setF 3 p d) rest (w1.setCell ⟨q, 6, none⟩ (.int .u32 p.ep))) := by
    have k2 : Kept w1 (w1.setCell ⟨q, 6, none⟩ (.int .u32 p.ep)) (fun k => k = q) := ((Kept.refl w1 (fun k => k = q)).setCell ⟨q, 6, none⟩ (.int .u32 p.ep) (fun _ => rfl))
    have k3 : Kept w (w1.setCell ⟨q, 6, none⟩ (.int .u32 p.ep)) (fun k => k = g ∨ k = q) := (h3.mono (fun k _ e => Or.inl e)).trans k2 (fun k _ e => .inr e)
    have hat : PkAt (w1.setCell ⟨q, 6, none⟩ (.int .u32 p.ep)) q (setF 3 p d) tc bv := (heap_setR (i := 6) (.int .u32 p.ep) hrow)
    exact ⟨tc, bv, v1, H.out.2.2.1.turn k3 hat rfl rfl, IsR.aside h1 k2 H.out.2.2.2.1 (fun k e => (H.out.2.2.2.2 k (h2 k e)).1), h2, k3⟩
  clear h1 h2 h3 hrow H
  go_wp2_with fail
  go_end0
  exact ⟨rfl, HF.out⟩

set_option maxHeartbeats 400000 in
theorem gt4 (h : IsR w g v (fdB 4 p ++ rest) 0) (hb : Byts (fdB 4 p ++ rest)) (hi : InPk w g q r tc bv d) (hgq : g ≠ q) (hv : ∀ k, v.ownBlock = some k → k ≠ q ∧ r < k) : Calls Tryz.prog 77 #[.pointer (some ⟨g, 0, none⟩), .pointer (some ⟨q, 0, none⟩)] w fun e w' => e = .returned (.tuple #[]) ∧ Gets w g q r v (setF 4 p d) rest w' := by
  have H : Hid (IsR w g v (be4 p.cur ++ rest) 0 ∧ Byts (be4 p.cur ++ rest) ∧ InPk w g q r tc bv d ∧ g ≠ q ∧ ∀ k, v.ownBlock = some k → k ≠ q ∧ r < k) := ⟨h, hb, hi, hgq, hv⟩
  clear h hb hi hgq hv
  go_enter Tryz.func77, Tryz.ntmps77
  go_wp2_with fail
  refine (gU32 (g := g) (v := v) (w := w) p.cur H.out.1 H.out.2.1).mono ?_
  rintro _ w1 ⟨rfl, v1, h1, h2, h3⟩
  have hrow : w1.heap[q]? = some (.cells (pkL d tc bv).toArray 39 (0, 0)) := h3.heap H.out.2.2.1.at_ (fun e => H.out.2.2.2.1 e.symm)
  have c7 : w1.cell? ⟨q, 7, none⟩ = some (.int .u32 d.cur) := pk_at hrow rfl
  have f7 := frozen_of_row w1 q 7 _ _ hrow
  have HF : Hid (Gets w g q r v (setF 4 p d) rest (w1.setCell ⟨q, 7, none⟩ (.int .u32 p.cur))) := by
    have k2 : Kept w1 (w1.setCell ⟨q, 7, none⟩ (.int .u32 p.cur)) (fun k => k = q) := ((Kept.refl w1 (fun k => k = q)).setCell ⟨q, 7, none⟩ (.int .u32 p.cur) (fun _ => rfl))
    have k3 : Kept w (w1.setCell ⟨q, 7, none⟩ (.int .u32 p.cur)) (fun k => k = g ∨ k = q) := (h3.mono (fun k _ e => Or.inl e)).trans k2 (fun k _ e => .inr e)
    have hat : PkAt (w1.setCell ⟨q, 7, none⟩ (.int .u32 p.cur)) q (setF 4 p d) tc bv := (heap_setR (i := 7) (.int .u32 p.cur) hrow)
    exact ⟨tc, bv, v1, H.out.2.2.1.turn k3 hat rfl rfl, IsR.aside h1 k2 H.out.2.2.2.1 (fun k e => (H.out.2.2.2.2 k (h2 k e)).1), h2, k3⟩
  clear h1 h2 h3 hrow H
  go_wp2_with fail
  go_end0
  exact ⟨rfl, HF.out⟩

set_option maxHeartbeats 400000 in
theorem gt5 (h : IsR w g v (fdB 5 p ++ rest) 0) (hb : Byts (fdB 5 p ++ rest)) (hi : InPk w g q r tc bv d) (hgq : g ≠ q) (hv : ∀ k, v.ownBlock = some k → k ≠ q ∧ r < k) : Calls Tryz.prog 80 #[.pointer (some ⟨g, 0, none⟩), .pointer (some ⟨q, 0, none⟩)] w fun e w' => e = .returned (.tuple #[]) ∧ Gets w g q r v (setF 5 p d) rest w' := by
  have H : Hid (IsR w g v ((be4 p.ze ++ be4 p.zn) ++ rest) 0 ∧ Byts ((be4 p.ze ++ be4 p.zn) ++ rest) ∧ InPk w g q r tc bv d ∧ g ≠ q ∧ ∀ k, v.ownBlock = some k → k ≠ q ∧ r < k) := ⟨h, hb, hi, hgq, hv⟩
  clear h hb hi hgq hv
  go_enter Tryz.func80, Tryz.ntmps80
  go_wp2_with fail
  refine (getPair_bk g v p.ze p.zn rest w H.out.1 H.out.2.1).mono ?_
  rintro _ w1 ⟨rfl, v1, h1, h2, h3⟩
  have hrow : w1.heap[q]? = some (.cells (pkL d tc bv).toArray 39 (0, 0)) := h3.heap H.out.2.2.1.at_ (fun e => H.out.2.2.2.1 e.symm)
  have c8 : w1.cell? ⟨q, 8, none⟩ = some (.int .u32 d.ze) := pk_at hrow rfl
  have f8 := frozen_of_row w1 q 8 _ _ hrow
  have c9 : w1.cell? ⟨q, 9, none⟩ = some (.int .u32 d.zn) := pk_at hrow rfl
  have f9 := frozen_of_row w1 q 9 _ _ hrow
  have HF : Hid (Gets w g q r v (setF 5 p d) rest ((w1.setCell ⟨q, 8, none⟩ (.int .u32 p.ze)).setCell ⟨q, 9, none⟩ (.int .u32 p.zn))) := by
    have k2 : Kept w1 ((w1.setCell ⟨q, 8, none⟩ (.int .u32 p.ze)).setCell ⟨q, 9, none⟩ (.int .u32 p.zn)) (fun k => k = q) := (((Kept.refl w1 (fun k => k = q)).setCell ⟨q, 8, none⟩ (.int .u32 p.ze) (fun _ => rfl)).setCell ⟨q, 9, none⟩ (.int .u32 p.zn) (fun _ => rfl))
    have k3 : Kept w ((w1.setCell ⟨q, 8, none⟩ (.int .u32 p.ze)).setCell ⟨q, 9, none⟩ (.int .u32 p.zn)) (fun k => k = g ∨ k = q) := (h3.mono (fun k _ e => Or.inl e)).trans k2 (fun k _ e => .inr e)
    have hat : PkAt ((w1.setCell ⟨q, 8, none⟩ (.int .u32 p.ze)).setCell ⟨q, 9, none⟩ (.int .u32 p.zn)) q (setF 5 p d) tc bv := (heap_setR (i := 9) (.int .u32 p.zn) (heap_setR (i := 8) (.int .u32 p.ze) hrow))
    exact ⟨tc, bv, v1, H.out.2.2.1.turn k3 hat rfl rfl, IsR.aside h1 k2 H.out.2.2.2.1 (fun k e => (H.out.2.2.2.2 k (h2 k e)).1), h2, k3⟩
  clear h1 h2 h3 hrow H
  go_wp2_with fail
  go_end0
  exact ⟨rfl, HF.out⟩

set_option maxHeartbeats 400000 in
theorem gt6 (h : IsR w g v (fdB 6 p ++ rest) 0) (hb : Byts (fdB 6 p ++ rest)) (hi : InPk w g q r tc bv d) (hgq : g ≠ q) (hv : ∀ k, v.ownBlock = some k → k ≠ q ∧ r < k) : Calls Tryz.prog 84 #[.pointer (some ⟨g, 0, none⟩), .pointer (some ⟨q, 0, none⟩)] w fun e w' => e = .returned (.tuple #[]) ∧ Gets w g q r v (setF 6 p d) rest w' := by
  have H : Hid (IsR w g v ((be4 p.pe ++ be4 p.pn) ++ rest) 0 ∧ Byts ((be4 p.pe ++ be4 p.pn) ++ rest) ∧ InPk w g q r tc bv d ∧ g ≠ q ∧ ∀ k, v.ownBlock = some k → k ≠ q ∧ r < k) := ⟨h, hb, hi, hgq, hv⟩
  clear h hb hi hgq hv
  go_enter Tryz.func84, Tryz.ntmps84
  go_wp2_with fail
  refine (getPair_bk g v p.pe p.pn rest w H.out.1 H.out.2.1).mono ?_
  rintro _ w1 ⟨rfl, v1, h1, h2, h3⟩
  have hrow : w1.heap[q]? = some (.cells (pkL d tc bv).toArray 39 (0, 0)) := h3.heap H.out.2.2.1.at_ (fun e => H.out.2.2.2.1 e.symm)
  have c10 : w1.cell? ⟨q, 10, none⟩ = some (.int .u32 d.pe) := pk_at hrow rfl
  have f10 := frozen_of_row w1 q 10 _ _ hrow
  have c11 : w1.cell? ⟨q, 11, none⟩ = some (.int .u32 d.pn) := pk_at hrow rfl
  have f11 := frozen_of_row w1 q 11 _ _ hrow
  have HF : Hid (Gets w g q r v (setF 6 p d) rest ((w1.setCell ⟨q, 10, none⟩ (.int .u32 p.pe)).setCell ⟨q, 11, none⟩ (.int .u32 p.pn))) := by
    have k2 : Kept w1 ((w1.setCell ⟨q, 10, none⟩ (.int .u32 p.pe)).setCell ⟨q, 11, none⟩ (.int .u32 p.pn)) (fun k => k = q) := (((Kept.refl w1 (fun k => k = q)).setCell ⟨q, 10, none⟩ (.int .u32 p.pe) (fun _ => rfl)).setCell ⟨q, 11, none⟩ (.int .u32 p.pn) (fun _ => rfl))
    have k3 : Kept w ((w1.setCell ⟨q, 10, none⟩ (.int .u32 p.pe)).setCell ⟨q, 11, none⟩ (.int .u32 p.pn)) (fun k => k = g ∨ k = q) := (h3.mono (fun k _ e => Or.inl e)).trans k2 (fun k _ e => .inr e)
    have hat : PkAt ((w1.setCell ⟨q, 10, none⟩ (.int .u32 p.pe)).setCell ⟨q, 11, none⟩ (.int .u32 p.pn)) q (setF 6 p d) tc bv := (heap_setR (i := 11) (.int .u32 p.pn) (heap_setR (i := 10) (.int .u32 p.pe) hrow))
    exact ⟨tc, bv, v1, H.out.2.2.1.turn k3 hat rfl rfl, IsR.aside h1 k2 H.out.2.2.2.1 (fun k e => (H.out.2.2.2.2 k (h2 k e)).1), h2, k3⟩
  clear h1 h2 h3 hrow H
  go_wp2_with fail
  go_end0
  exact ⟨rfl, HF.out⟩

set_option maxHeartbeats 400000 in
theorem gt7 (h : IsR w g v (fdB 7 p ++ rest) 0) (hb : Byts (fdB 7 p ++ rest)) (hi : InPk w g q r tc bv d) (hgq : g ≠ q) (hv : ∀ k, v.ownBlock = some k → k ≠ q ∧ r < k) : Calls Tryz.prog 88 #[.pointer (some ⟨g, 0, none⟩), .pointer (some ⟨q, 0, none⟩)] w fun e w' => e = .returned (.tuple #[]) ∧ Gets w g q r v (setF 7 p d) rest w' := by
  have H : Hid (IsR w g v ([b2i p.cnt] ++ rest) 0 ∧ Byts ([b2i p.cnt] ++ rest) ∧ InPk w g q r tc bv d ∧ g ≠ q ∧ ∀ k, v.ownBlock = some k → k ≠ q ∧ r < k) := ⟨h, hb, hi, hgq, hv⟩
  clear h hb hi hgq hv
  go_enter Tryz.func88, Tryz.ntmps88
  go_wp2_with fail
  refine (gBool (g := g) (v := v) (w := w) p.cnt H.out.1 H.out.2.1).mono ?_
  rintro _ w1 ⟨rfl, v1, h1, h2, h3⟩
  have hrow : w1.heap[q]? = some (.cells (pkL d tc bv).toArray 39 (0, 0)) := h3.heap H.out.2.2.1.at_ (fun e => H.out.2.2.2.1 e.symm)
  have c12 : w1.cell? ⟨q, 12, none⟩ = some (.bool d.cnt) := pk_at hrow rfl
  have f12 := frozen_of_row w1 q 12 _ _ hrow
  have HF : Hid (Gets w g q r v (setF 7 p d) rest (w1.setCell ⟨q, 12, none⟩ (.bool p.cnt))) := by
    have k2 : Kept w1 (w1.setCell ⟨q, 12, none⟩ (.bool p.cnt)) (fun k => k = q) := ((Kept.refl w1 (fun k => k = q)).setCell ⟨q, 12, none⟩ (.bool p.cnt) (fun _ => rfl))
    have k3 : Kept w (w1.setCell ⟨q, 12, none⟩ (.bool p.cnt)) (fun k => k = g ∨ k = q) := (h3.mono (fun k _ e => Or.inl e)).trans k2 (fun k _ e => .inr e)
    have hat : PkAt (w1.setCell ⟨q, 12, none⟩ (.bool p.cnt)) q (setF 7 p d) tc bv := (heap_setR (i := 12) (.bool p.cnt) hrow)
    exact ⟨tc, bv, v1, H.out.2.2.1.turn k3 hat rfl rfl, IsR.aside h1 k2 H.out.2.2.2.1 (fun k e => (H.out.2.2.2.2 k (h2 k e)).1), h2, k3⟩
  clear h1 h2 h3 hrow H
  go_wp2_with fail
  go_end0
  exact ⟨rfl, HF.out⟩

set_option maxHeartbeats 400000 in
theorem gt8 (h : IsR w g v (fdB 8 p ++ rest) 0) (hb : Byts (fdB 8 p ++ rest)) (hi : InPk w g q r tc bv d) (hgq : g ≠ q) (hv : ∀ k, v.ownBlock = some k → k ≠ q ∧ r < k) : Calls Tryz.prog 91 #[.pointer (some ⟨g, 0, none⟩), .pointer (some ⟨q, 0, none⟩)] w fun e w' => e = .returned (.tuple #[]) ∧ Gets w g q r v (setF 8 p d) rest w' := by
  have H : Hid (IsR w g v ([b2i p.fin] ++ rest) 0 ∧ Byts ([b2i p.fin] ++ rest) ∧ InPk w g q r tc bv d ∧ g ≠ q ∧ ∀ k, v.ownBlock = some k → k ≠ q ∧ r < k) := ⟨h, hb, hi, hgq, hv⟩
  clear h hb hi hgq hv
  go_enter Tryz.func91, Tryz.ntmps91
  go_wp2_with fail
  refine (gBool (g := g) (v := v) (w := w) p.fin H.out.1 H.out.2.1).mono ?_
  rintro _ w1 ⟨rfl, v1, h1, h2, h3⟩
  have hrow : w1.heap[q]? = some (.cells (pkL d tc bv).toArray 39 (0, 0)) := h3.heap H.out.2.2.1.at_ (fun e => H.out.2.2.2.1 e.symm)
  have c13 : w1.cell? ⟨q, 13, none⟩ = some (.bool d.fin) := pk_at hrow rfl
  have f13 := frozen_of_row w1 q 13 _ _ hrow
  have HF : Hid (Gets w g q r v (setF 8 p d) rest (w1.setCell ⟨q, 13, none⟩ (.bool p.fin))) := by
    have k2 : Kept w1 (w1.setCell ⟨q, 13, none⟩ (.bool p.fin)) (fun k => k = q) := ((Kept.refl w1 (fun k => k = q)).setCell ⟨q, 13, none⟩ (.bool p.fin) (fun _ => rfl))
    have k3 : Kept w (w1.setCell ⟨q, 13, none⟩ (.bool p.fin)) (fun k => k = g ∨ k = q) := (h3.mono (fun k _ e => Or.inl e)).trans k2 (fun k _ e => .inr e)
    have hat : PkAt (w1.setCell ⟨q, 13, none⟩ (.bool p.fin)) q (setF 8 p d) tc bv := (heap_setR (i := 13) (.bool p.fin) hrow)
    exact ⟨tc, bv, v1, H.out.2.2.1.turn k3 hat rfl rfl, IsR.aside h1 k2 H.out.2.2.2.1 (fun k e => (H.out.2.2.2.2 k (h2 k e)).1), h2, k3⟩
  clear h1 h2 h3 hrow H
  go_wp2_with fail
  go_end0
  exact ⟨rfl, HF.out⟩

set_option maxHeartbeats 400000 in
theorem gt11 (hg : p.good) (h : IsR w g v (fdB 11 p ++ rest) 0) (hb : Byts (fdB 11 p ++ rest)) (hi : InPk w g q r tc bv d) (hgq : g ≠ q) (hv : ∀ k, v.ownBlock = some k → k ≠ q ∧ r < k) : Calls Tryz.prog 102 #[.pointer (some ⟨g, 0, none⟩), .pointer (some ⟨q, 0, none⟩)] w fun e w' => e = .returned (.tuple #[]) ∧ Gets w g q r v (setF 11 p d) rest w' := by
  have H : Hid (IsR w g v (be8 (up64 p.ses) ++ rest) 0 ∧ Byts (be8 (up64 p.ses) ++ rest) ∧ InPk w g q r tc bv d ∧ g ≠ q ∧ ∀ k, v.ownBlock = some k → k ≠ q ∧ r < k) := ⟨h, hb, hi, hgq, hv⟩
  have HG : Hid (-9223372036854775808 ≤ p.ses ∧ p.ses ≤ 9223372036854775807) := ⟨hg.se0, hg.se1⟩
  clear hg
  clear h hb hi hgq hv
  go_enter Tryz.func102, Tryz.ntmps102
  go_wp2_with fail
  refine (gI64 (g := g) (v := v) (w := w) p.ses H.out.1 H.out.2.1 HG.out.1 HG.out.2).mono ?_
  rintro _ w1 ⟨rfl, v1, h1, h2, h3⟩
  have hrow : w1.heap[q]? = some (.cells (pkL d tc bv).toArray 39 (0, 0)) := h3.heap H.out.2.2.1.at_ (fun e => H.out.2.2.2.1 e.symm)
  have c31 : w1.cell? ⟨q, 31, none⟩ = some (.int .i64 d.ses) := (PkAt.tail (W := w1) hrow H.out.2.2.1.len).2.2
  have f31 := frozen_of_row w1 q 31 _ _ hrow
  have HF : Hid (Gets w g q r v (setF 11 p d) rest (w1.setCell ⟨q, 31, none⟩ (.int .i64 p.ses))) := by
    have k2 : Kept w1 (w1.setCell ⟨q, 31, none⟩ (.int .i64 p.ses)) (fun k => k = q) := ((Kept.refl w1 (fun k => k = q)).setCell ⟨q, 31, none⟩ (.int .i64 p.ses) (fun _ => rfl))
    have k3 : Kept w (w1.setCell ⟨q, 31, none⟩ (.int .i64 p.ses)) (fun k => k = g ∨ k = q) := (h3.mono (fun k _ e => Or.inl e)).trans k2 (fun k _ e => .inr e)
    have hat : PkAt (w1.setCell ⟨q, 31, none⟩ (.int .i64 p.ses)) q (setF 11 p d) tc bv := by
      have a := (heap_setR (i := 31) (.int .i64 p.ses) hrow)
      show _ = _
      rw [a, set31 d tc bv p.ses H.out.2.2.1.len]
      rfl
    exact ⟨tc, bv, v1, H.out.2.2.1.turn k3 hat rfl rfl, IsR.aside h1 k2 H.out.2.2.2.1 (fun k e => (H.out.2.2.2.2 k (h2 k e)).1), h2, k3⟩
  clear h1 h2 h3 hrow H
  go_wp2_with fail
  go_end0
  exact ⟨rfl, HF.out⟩

end
end Go.Proofs.YtochbjafdcbckaaGreatDoor

/- What the rows of package packet read: the buffer and the transaction; need. -/
namespace Go.Proofs.YtochbjafdcbckaaGreatDoor
open Go.RowKit
set_option maxRecDepth 8000

theorem need_true (w : World) : Calls Tryz.prog 42 #[.bool true] w fun e w' => e = .returned (.tuple #[]) ∧ w' = w := by
  go_enter Tryz.func42, Tryz.ntmps42
  go_wp2
  go_end0
  exact ⟨rfl, rfl⟩

theorem need_false (w : World) : Calls Tryz.prog 42 #[.bool false] w fun e w' => e = .panicked [{ v := .iface 103 (.agg #[]), recovered := false }] ∧ w' = w := by
  go_enter Tryz.func42, Tryz.ntmps42
  go_wp2
  exact ⟨rfl, rfl, rfl⟩

theorem pnam_kept {w w' : World} {S : Nat → Prop} (hn : PNam w) (hk : Kept w w' S) (hS : ∀ k, k ≤ 0 → ¬ S k) : PNam w' :=
  hn.below (B := 0 + 1) ⟨hk.os, hk.tape, hk.output, hk.size, fun k hk' => hk.block k (by have := hn.lt; omega) (hS k (by omega))⟩ (by omega)

theorem tx_one15 {w : World} {cs : List Value} {t : TxD} (h : SeesTx w cs t) : cs.toArray.all (·.oneCell') = true := by
  obtain ⟨rc, rfl, hr⟩ := h
  obtain ⟨q0, q1, d0, d1, d2, a0, a1, a2, q4, q5, q6, q7, q8, e0, e1, e2, o0, o1, o2, rfl⟩ := rq_forms hr
  simp [Value.oneCell', txHead]

/-- Cells of a row, written over from a place on. -/
def setFrom (cs : Array Value) : Nat → List Value → Array Value
  | _, [] => cs
  | o, v :: r => setFrom (cs.setIfInBounds o v) (o + 1) r
theorem heap_setCells {b : Nat} {t : TypeId} {fr : Nat × Nat} : ∀ (vs : List Value) (o : Nat) (w : World) (cs : Array Value), w.heap[b]? = some (.cells cs t fr) → (w.setCells b o vs).heap[b]? = some (.cells (setFrom cs o vs) t fr)
  | [], _, _, _, h => h
  | v :: r, o, _, _, h => heap_setCells r (o + 1) _ _ (heap_setR v h)
theorem setFrom_mid (B : List Value) : ∀ (new old A : List Value), old.length = new.length → setFrom (A ++ (old ++ B)).toArray A.length new = (A ++ (new ++ B)).toArray
  | [], [], A, _ => rfl
  | y :: new, x :: old, A, h => by
    show setFrom ((A ++ (x :: old ++ B)).toArray.setIfInBounds A.length y) (A.length + 1) new = _
    rw [List.setIfInBounds_toArray, show (A ++ (x :: old ++ B)).set A.length y = (A ++ [y]) ++ (old ++ B) by simp, show A.length + 1 = (A ++ [y]).length by simp, setFrom_mid B new old (A ++ [y]) (by simpa using h)]
    simp
theorem kept_setCells (q : Nat) : ∀ (vs : List Value) (o : Nat) (w : World), Kept w (w.setCells q o vs) (fun k => k = q)
  | [], _, w => Kept.refl w _
  | v :: r, o, w => ((Kept.refl w (fun k => k = q)).setCell ⟨q, o, none⟩ v (fun _ => rfl)).trans (kept_setCells q r (o + 1) _) (fun _ _ e => e)

section
variable (p : PkD) (g q r : Nat) (v : Value) (d : PkD) (tc : List Value) (bv : Value) (rest : List Int) (w : World)

theorem set30 (hl : tc.length = 16) (u : Value) (ys : List Int) : (pkL d tc bv).toArray.setIfInBounds 30 u = (pkL { d with bys := ys } tc u).toArray := by
  rw [List.setIfInBounds_toArray]
  congr 1
  show _ :: _ :: _ :: _ :: _ :: _ :: _ :: _ :: _ :: _ :: _ :: _ :: _ :: _ :: ((tc ++ [bv, .int .i64 d.ses]).set 16 u) = _
  rw [List.set_append_right _ _ (by omega), hl]
  rfl

set_option maxHeartbeats 1000000 in
theorem gt10 (hl : p.bys.length ≤ 4096) (h : IsR w g v (fdB 10 p ++ rest) 0) (hb : Byts (fdB 10 p ++ rest)) (hi : InPk w g q r tc bv d) (hgq : g ≠ q) (hv : ∀ k, v.ownBlock = some k → k ≠ q ∧ r < k) : Calls Tryz.prog 98 #[.pointer (some ⟨g, 0, none⟩), .pointer (some ⟨q, 0, none⟩)] w fun e w' => e = .returned (.tuple #[]) ∧ Gets w g q r v (setF 10 p d) rest w' := by
  have H : Hid (IsR w g v ((be4 p.bys.length ++ p.bys) ++ rest) 0 ∧ Byts ((be4 p.bys.length ++ p.bys) ++ rest) ∧ InPk w g q r tc bv d ∧ g ≠ q ∧ (∀ k, v.ownBlock = some k → k ≠ q ∧ r < k) ∧ v.ownBlock ≠ some g) := ⟨h, hb, hi, hgq, hv, h.apart (by simp [fdB, be4])⟩
  clear h hb hi hgq hv
  go_enter Tryz.func98, Tryz.ntmps98
  go_wp2_with fail
  refine (gBuf (g := g) (v := v) (w := w) p.bys 4096 H.out.1 H.out.2.1 (by omega) (by omega)).mono ?_
  rintro _ w1 ⟨u, rfl, ⟨hu, ⟨uo, rfl⟩, hub⟩, v1, h1, h2, h3⟩
  have hrow : w1.heap[q]? = some (.cells (pkL d tc bv).toArray 39 (0, 0)) := h3.heap H.out.2.2.1.at_ (fun e => H.out.2.2.2.1 e.symm)
  have c30 : w1.cell? ⟨q, 30, none⟩ = some bv := (PkAt.tail (W := w1) hrow H.out.2.2.1.len).2.1
  have f30 := frozen_of_row w1 q 30 _ _ hrow
  obtain ⟨b0, b1, b2, rfl⟩ := sees_form H.out.2.2.1.bys
  have HF : Hid (Gets w g q r v (setF 10 p d) rest (w1.setCell ⟨q, 30, none⟩ (.slice uo p.bys.length p.bys.length))) := by
    have k2 : Kept w1 (w1.setCell ⟨q, 30, none⟩ (.slice uo p.bys.length p.bys.length)) (fun k => k = q) := (Kept.refl w1 (fun k => k = q)).setCell ⟨q, 30, none⟩ _ (fun _ => rfl)
    have k3 : Kept w (w1.setCell ⟨q, 30, none⟩ (.slice uo p.bys.length p.bys.length)) (fun k => k = g ∨ k = q) := (h3.mono (fun k _ e => Or.inl e)).trans k2 (fun k _ e => .inr e)
    have hat : PkAt (w1.setCell ⟨q, 30, none⟩ (.slice uo p.bys.length p.bys.length)) q (setF 10 p d) tc (.slice uo p.bys.length p.bys.length) := by
      have a := heap_setR (i := 30) (.slice uo p.bys.length p.bys.length) hrow
      show _ = _
      rw [a, set30 d tc _ H.out.2.2.1.len _ p.bys]
      rfl
    obtain ⟨rc, e, hr⟩ := H.out.2.2.1.tx
    refine ⟨tc, _, v1, ⟨hat, ⟨rc, e, hr.kept k3 (fun k hF => ⟨fun e => by rcases e with e | e; (· exact hF.1 e); (· exact hF.2.1 e), hF⟩)⟩, hu.kept k2 (fun k e => (H.out.2.2.2.2.1 k (hub k e)).1), fun k e => ⟨fun e' => H.out.2.2.2.2.2 (by rw [← e']; exact hub k e), H.out.2.2.2.2.1 k (hub k e)⟩⟩, IsR.aside h1 k2 H.out.2.2.2.1 (fun k e => (H.out.2.2.2.2.1 k (h2 k e)).1), h2, k3⟩
  clear h1 h2 h3 hrow H hu hub
  go_wp2_with fail
  go_end0
  exact ⟨rfl, HF.out⟩

set_option maxHeartbeats 2000000 in
theorem gt9 (hrl : r < w.heap.size) (hok : txOk p.tx = true) (hg : p.good) (hn : Nam w) (hng : 1 < g) (h : IsR w g v (fdB 9 p ++ rest) 0) (hb : Byts (fdB 9 p ++ rest)) (hi : InPk w g q r tc bv d) (hgq : g ≠ q) (hv : ∀ k, v.ownBlock = some k → k ≠ q ∧ r < k) : Calls Tryz.prog 94 #[.pointer (some ⟨g, 0, none⟩), .pointer (some ⟨q, 0, none⟩)] w fun e w' => e = .returned (.tuple #[]) ∧ Gets w g q r v (setF 9 p d) rest w' := by
  have hlen := txB_t p.tx hok
  have H : Hid (IsR w g v ((be4 (txB p.tx).length ++ txB p.tx) ++ rest) 0 ∧ Byts ((be4 (txB p.tx).length ++ txB p.tx) ++ rest) ∧ InPk w g q r tc bv d ∧ g ≠ q ∧ (∀ k, v.ownBlock = some k → k ≠ q ∧ r < k) ∧ v.ownBlock ≠ some g) := ⟨h, hb, hi, hgq, hv, h.apart (by simp [fdB, be4])⟩
  have HK : Hid (txOk p.tx = true ∧ p.good ∧ Nam w ∧ 1 < g ∧ q < w.heap.size ∧ g < w.heap.size ∧ r < w.heap.size ∧ ∀ k, v.ownBlock = some k → k < w.heap.size) := ⟨hok, hg, hn, hng, hi.at_.lt, lt_of_block h.1, hrl, fun k e => h.2.lt (by simp [fdB, be4]) k e⟩
  clear h hb hi hgq hv hok hg hn hng hrl
  go_enter Tryz.func94, Tryz.ntmps94
  go_wp2_with fail
  refine (gBuf (g := g) (v := v) (w := w) (txB p.tx) 4096 H.out.1 H.out.2.1 (by omega) (by omega)).mono ?_
  rintro _ w1 ⟨u, rfl, ⟨hu, ⟨uo, rfl⟩, hub⟩, v1, h1, h2, h3⟩
  have H1 : Hid (Nam w1 ∧ Sees w1 (.slice uo (txB p.tx).length (txB p.tx).length) (txB p.tx) ∧ IsR w1 g v1 rest 0 ∧ (∀ k, v1.ownBlock = some k → v.ownBlock = some k) ∧ Kept w w1 (· = g)) := ⟨nam_kept HK.out.2.2.1 h3 (fun k hk e => by have := HK.out.2.2.2.1; omega), hu, h1, h2, h3⟩
  clear h1 h2 h3 hu hub
  go_wp2_with fail
  refine (read_bk p.tx HK.out.1 HK.out.2.1.tx _ w1 H1.out.2.1 H1.out.1).mono ?_
  rintro _ w7 ⟨rc, rfl, hrc, b7⟩
  obtain ⟨us, hus⟩ : ∃ us, us = txHead p.tx ++ rc := ⟨_, rfl⟩
  rw [← hus]
  have hu7 : SeesTx w7 us p.tx := ⟨rc, hus, hrc.sees⟩
  have ul := hu7.len
  have u1 : us.toArray.all (·.oneCell') = true := tx_one15 hu7
  have q16 : (Tryz.prog.info? 37).map (·.size) = some us.toArray.size := by rw [List.size_toArray, ul]; exact txSz
  have s1 : (w7.alloc (.cells zTx 37)).heap[w7.heap.size]? = some (.cells zTx 37 (0, 0)) := heap_alloc_new _ _
  obtain ⟨W8, hW8⟩ : ∃ W8, W8 = (w7.alloc (.cells zTx 37)).setRow w7.heap.size us.toArray := ⟨_, rfl⟩
  have H8 : Hid (W8.heap[w7.heap.size]? = some (.cells us.toArray 37 (0, 0)) ∧ Kept w W8 (fun k => k = g) ∧ RqIn W8 (fun k => k ≠ g ∧ k ≠ q ∧ r < k) rc p.tx.rq ∧ IsR W8 g v1 rest 0 ∧ us = txHead p.tx ++ rc ∧ PkAt W8 q d tc bv ∧ (∀ k, v1.ownBlock = some k → v.ownBlock = some k)) := by
    have ks : Kept (w7.alloc (.cells zTx 37)) W8 (fun k => k = w7.heap.size) := by rw [hW8]; exact ⟨rfl, rfl, rfl, by simp, fun k _ hn => setRow_other _ _ _ _ hn⟩
    have k7 : Kept w7 W8 (fun _ => False) := ((Kept.refl w7 (fun _ => False)).alloc _).trans ks (fun k hk e => by omega)
    have s17 := b7.size
    have kw1 := H1.out.2.2.2.2.size
    have k17 : Kept w1 W8 (fun _ => False) := ((Below.kept b7).mono (fun k hk e => by omega)).trans k7 (fun _ _ e => e)
    have kw : Kept w W8 (fun k => k = g) := H1.out.2.2.2.2.trans k17 (fun k _ e => False.elim e)
    refine ⟨by rw [hW8]; exact setRow_heap _ _ _ _ _ _ s1, kw, hrc.kept k7 (fun k hF => ⟨fun e => e, ?_⟩), H1.out.2.2.1.kept k17 (fun e => e) (fun _ _ e => e), hus, kw.heap H.out.2.2.1.at_ (fun e => H.out.2.2.2.1 e.symm), H1.out.2.2.2.1⟩
    have := HK.out.2.2.2.2
    exact ⟨by omega, by omega, by omega⟩
  have HW8 : Hid _ := hW8
  clear hW8 hu7 hus hrc b7 H1
  go_upto_region 1 with (refine wpList_store_row rfl 37 _ _ rfl w7.heap.size us.toArray rfl rfl 37 _ s1 q16 (by simp [ul]) u1 ?_)
  rw [← HW8.out]
  clear HW8 s1
  go_wp2_with fail
  refine (need_true _).mono ?_
  rintro _ w9 ⟨rfl, h9⟩
  rw [h9]
  clear h9
  have hr8 := H8.out.1
  have hrq := H8.out.2.2.2.2.2.1
  unfold PkAt at hrq
  have hth : W8.there q 14 us.toArray.size := by
    rw [List.size_toArray, ul]
    intro j hj
    refine ⟨?_, frozen_of_row W8 q (14 + j) _ _ hrq⟩
    rw [cell_of_row _ _ _ _ _ _ hrq, Array.getElem?_eq_getElem (by simp [pkL, H.out.2.2.1.len]; omega)]
    rfl
  have HF : Hid (Gets w g q r v (setF 9 p d) rest (W8.setCells q 14 us.toArray.toList)) := by
    have k2 := kept_setCells q us.toArray.toList 14 W8
    have k3 : Kept w (W8.setCells q 14 us.toArray.toList) (fun k => k = g ∨ k = q) := (H8.out.2.1.mono (fun k _ e => Or.inl e)).trans k2 (fun k _ e => .inr e)
    have hat : PkAt (W8.setCells q 14 us.toArray.toList) q (setF 9 p d) us bv := by
      have a := heap_setCells us.toArray.toList 14 W8 _ hrq
      show _ = _
      rw [a]
      congr 2
      exact setFrom_mid [bv, .int .i64 d.ses] us tc [.int .i8 d.kind, .int .u32 d.cb, .int .u32 d.ct, .int .u32 d.lb, .int .u32 d.lt, .int .i64 d.place, .int .u32 d.ep, .int .u32 d.cur, .int .u32 d.ze, .int .u32 d.zn, .int .u32 d.pe, .int .u32 d.pn, .bool d.cnt, .bool d.fin] (by rw [ul]; exact H.out.2.2.1.len)
    refine ⟨us, bv, v1, ⟨hat, ⟨rc, H8.out.2.2.2.2.1, H8.out.2.2.1.kept k2 (fun k hF => ⟨hF.2.1, hF⟩)⟩, H.out.2.2.1.bys.kept k3 (fun k e h' => by have := H.out.2.2.1.apart k e; rcases h' with h' | h'; (· exact this.1 h'); (· exact this.2.1 h')), H.out.2.2.1.apart⟩, IsR.aside H8.out.2.2.2.1 k2 H.out.2.2.2.1 (fun k e => (H.out.2.2.2.2.1 k (H8.out.2.2.2.2.2.2 k e)).1), H8.out.2.2.2.2.2.2, k3⟩
  clear H H8 HK hrq
  go_wp2_with (first | (refine wpList_load_row rfl 37 _ rfl w7.heap.size rfl 37 _ (0, 0) _ hr8 Tryz.underlying37 rfl q16 ?_) | (refine wpList_store_mid rfl 37 _ _ rfl q 14 us.toArray rfl rfl hth q16 u1 ?_))
  clear hr8 hth
  go_wp2_with fail
  go_end0
  exact ⟨rfl, HF.out⟩
end
end Go.Proofs.YtochbjafdcbckaaGreatDoor
