/- One thing that is done to both disks: the law's step answers true, and both are alike behind it. -/
import Derived.Test.YtdbphdllibffnaaGreatMsDJ
import Derived.Test.YtdbphdllibffnaaGreatRdYJ
import Derived.Test.YtdbphdllibffnaaGreatMaLJ
import Derived.Deep.RegionHeld
namespace Go.Proofs.YtdbphdllibffnaaGreat
open Go.RowKit Go.Shelf
set_option maxRecDepth 8000
set_option linter.unusedSimpArgs false

/-- What the walk of a step has in hand. -/
structure StM (w0 w V : World) (p q : Nat) (D : DkD) (R : RD) (k : Nat) (fv : Value) (ms : List FiM) (rv : Value) (vs : List Value) (o : OpM) : Prop where
  dk : IsDk V p fv ms D
  rd : IsRd V q rv vs R
  ap : ∀ j ∈ foot p fv ms, j ∉ rfoot q rv vs
  h4 : ∀ j ∈ foot p fv ms, w0.heap.size ≤ j
  h5 : ∀ j ∈ rfoot q rv vs, w0.heap.size ≤ j
  both : Both w0 V p q D R k
  rok : RdOk R
  op : GoodOpM V w0.heap.size o
  nd : w.heap.size ∉ foot p fv ms
  nr : w.heap.size ∉ rfoot q rv vs
  row : V.heap[w.heap.size]? = some (.cells o.cells.toArray 39 (0, 0))
  fb : FB D.files
  sz : w0.heap.size ≤ w.heap.size

section
variable {w0 w V w1 w2 : World} {p q : Nat} {D D1 : DkD} {R R1 : RD} {k : Nat} {fv fv1 : Value} {ms ms1 : List FiM} {rv rv1 : Value} {vs vs1 : List Value} {o : OpM}

theorem StM.fin (h : StM w0 w V p q D R k fv ms rv vs o) (ht : DkTo V p fv ms w1 D1 fv1 ms1) (ht2 : RdTo w1 q rv vs w2 R1 rv1 vs1) {e e' : Int} {j : Nat} (a : PlayP D D1 R1 e e' j R.more) (hj : j ≤ 4) : ∃ D' R', Both w0 w2 p q D' R' (k + 4) ∧ FB D'.files :=
  ⟨D1, R1, Both.both h.both h.rd h.ap h.h4 h.h5 ht ht2 a.ok a.calm a.play (Int.le_trans a.more h.both.more) (by have := a.writes; have := h.both.writes; omega), a.fb⟩

theorem StM.same (h : StM w0 w V p q D R k fv ms rv vs o) (hb : Below V.heap.size V w2) : ∃ D' R', Both w0 w2 p q D' R' (k + 4) ∧ FB D'.files :=
  ⟨D, R, (h.both.later hb).mono (by omega), h.fb⟩

theorem StM.box (h : StM w0 w V p q D R k fv ms rv vs o) (ht : DkTo V p fv ms w1 D1 fv1 ms1) : w1.heap[w.heap.size]? = some (.cells o.cells.toArray 39 (0, 0)) := ht.kept.heap h.row h.nd
theorem StM.rd1 (h : StM w0 w V p q D R k fv ms rv vs o) (ht : DkTo V p fv ms w1 D1 fv1 ms1) : IsRd w1 q rv vs R := (both_dk h.rd h.ap ht).1
theorem StM.op1 (h : StM w0 w V p q D R k fv ms rv vs o) (ht : DkTo V p fv ms w1 D1 fv1 ms1) : GoodOpM w1 w0.heap.size o := h.op.kept ht.kept (fun j hj e => by have := h.h4 j e; omega)
theorem StM.bp (h : StM w0 w V p q D R k fv ms rv vs o) (hy : o.p ≠ []) (j : Nat) (e : (Value.slice o.pa o.p.length o.pc).ownBlock = some j) : j < w0.heap.size ∧ j ∉ foot p fv ms ∧ j ∉ rfoot q rv vs := by
  have := h.op.pb hy j e
  exact ⟨this, fun hm => by have := h.h4 j hm; omega, fun hm => by have := h.h5 j hm; omega⟩
theorem StM.bk (h : StM w0 w V p q D R k fv ms rv vs o) (hy : o.keep ≠ []) (j : Nat) (e : (Value.slice o.ka o.keep.length o.kc).ownBlock = some j) : j < w0.heap.size ∧ j ∉ foot p fv ms ∧ j ∉ rfoot q rv vs := by
  have := h.op.kb hy j e
  exact ⟨this, fun hm => by have := h.h4 j hm; omega, fun hm => by have := h.h5 j hm; omega⟩
theorem StM.wr (h : StM w0 w V p q D R k fv ms rv vs o) (hk : k ≤ 4611686018427386000) : D.writes ≤ 4611686018427387000 := by have := h.both.writes; omega
end

set_option maxHeartbeats 8000000 in
theorem stepM_any {w0 w : World} {p q : Nat} {D : DkD} {R : RD} {k : Nat} (h : Both w0 w p q D R k) (fb : FB D.files) (hk : k ≤ 4611686018427386000) (o : OpM) (ho : GoodOpM w w0.heap.size o) (hpl : o.p.length ≤ 100000000000) :
    Calls Tryz.prog 8 #[.pointer (some ⟨p, 0, none⟩), .pointer (some ⟨q, 0, none⟩), .agg o.cells.toArray] w fun e w' => e = .returned (.bool true) ∧ ∃ D' R', Both w0 w' p q D' R' (k + 4) ∧ FB D'.files := by
  obtain ⟨V, eV⟩ : ∃ V, V = w.alloc (.cells o.cells.toArray 39) := ⟨_, rfl⟩
  have hbV : Below w.heap.size w V := by rw [eV]; exact one_allocK _ _
  have hV : Both w0 V p q D R k := h.later hbV
  have hrow : V.heap[w.heap.size]? = some (.cells o.cells.toArray 39 (0, 0)) := by rw [eV]; exact heap_alloc_new w _
  obtain ⟨fv, ms, rv, vs, g1, g2, hap, h4, h5⟩ := h.ex
  have HX : Hid (StM w0 w V p q D R k fv ms rv vs o) := ⟨g1.later hbV, g2.later hbV, hap, h4, h5, hV, hV.rdOk (by omega), ho.kept (Below.kept hbV) (fun j hj e => by have := h.bel.size; omega), fun e => by have := g1.lt e; omega, fun e => by have := g2.lt e; omega, hrow, fb, h.bel.size⟩
  have hlp := lt_of_block (g1.later hbV).row
  have hlq := lt_of_block (g2.later hbV).row
  have hlV := lt_of_block hrow
  have HE : Hid _ := eV
  have HPL : Hid _ := hpl
  have HF : Hid (o.m.Fits) := ho.fits
  clear h hbV hV hrow g1 g2 hap h4 h5 eV ho hpl fb
  obtain ⟨kind, ⟨boot, acc, cur, snap, log⟩, pa, pc, pp, nn, ka, kc, keep⟩ := o
  have hrow := HX.out.row
  simp only [OpM.cells] at hrow HE ⊢
  have d0 := cell_of_row V _ 0 _ _ _ hrow
  have d1 := cell_of_row V _ 1 _ _ _ hrow
  have d2 := cell_of_row V _ 2 _ _ _ hrow
  have d3 := cell_of_row V _ 3 _ _ _ hrow
  have d4 := cell_of_row V _ 4 _ _ _ hrow
  have d5 := cell_of_row V _ 5 _ _ _ hrow
  have d6 := cell_of_row V _ 6 _ _ _ hrow
  have d7 := cell_of_row V _ 7 _ _ _ hrow
  have d8 := cell_of_row V _ 8 _ _ _ hrow
  simp only [List.getElem?_toArray, List.getElem?_cons_zero, List.getElem?_cons_succ] at d0 d1 d2 d3 d4 d5 d6 d7 d8
  clear hrow
  by_cases n1 : kind = 1
  · subst n1
    have HPT : Hid _ := mput_any HX.out.dk HX.out.both.ok (HX.out.wr hk) ⟨boot, acc, cur, snap, log⟩ HF.out
    obtain ⟨X, HX1⟩ : ∃ X, Hid (X = putD ⟨boot, acc, cur, snap, log⟩ D) := ⟨_, rfl⟩
    rw [← HX1.out] at HPT
    go_enter Tryz.func8, Tryz.ntmps8
    go_upto_region 1 with fail
    rw [← HE.out]
    go_wp2_with fail
    refine Calls.mono HPT.out ?_
    rintro e w1 ⟨rfl, fv1, ms1, ht⟩
    have hrow1 := HX.out.box ht
    simp only [OpM.cells] at hrow1
    have x0 := cell_of_row w1 _ 0 _ _ _ hrow1
    have x1 := cell_of_row w1 _ 1 _ _ _ hrow1
    have x2 := cell_of_row w1 _ 2 _ _ _ hrow1
    have x3 := cell_of_row w1 _ 3 _ _ _ hrow1
    have x4 := cell_of_row w1 _ 4 _ _ _ hrow1
    have x5 := cell_of_row w1 _ 5 _ _ _ hrow1
    have x6 := cell_of_row w1 _ 6 _ _ _ hrow1
    have x7 := cell_of_row w1 _ 7 _ _ _ hrow1
    have x8 := cell_of_row w1 _ 8 _ _ _ hrow1
    simp only [List.getElem?_toArray, List.getElem?_cons_zero, List.getElem?_cons_succ] at x0 x1 x2 x3 x4 x5 x6 x7 x8
    have hl1 := lt_of_block hrow1
    have HRP : Hid _ := rput_any (HX.out.rd1 ht) HX.out.both.play HX.out.both.calm HX.out.both.ok HX.out.fb HX.out.both.more (HX.out.wr hk) ⟨boot, acc, cur, snap, log⟩ HF.out
    obtain ⟨Y, HY1⟩ : ∃ Y, Hid (Y = putR ⟨boot, acc, cur, snap, log⟩ R) := ⟨_, rfl⟩
    rw [← HY1.out] at HRP
    have HPP : Hid (PlayP D X.2 Y.2 X.1 Y.1 4 R.more) := by rw [HX1.out, HY1.out]; exact playP_put _ HF.out HX.out.both.play HX.out.both.calm HX.out.both.ok HX.out.fb
    have HT : Hid _ := ht
    clear ht hrow1 HPT HX1 HY1
    obtain ⟨E, D1⟩ := X
    obtain ⟨E', R1⟩ := Y
    obtain rfl : E' = E := HPP.out.err
    have hbq : (E' == E') = true := by simp
    go_wp2_with fail
    refine Calls.mono HRP.out ?_
    rintro e w2 ⟨rfl, rv1, vs1, ht2⟩
    have HFN : Hid _ := HX.out.fin HT.out ht2 HPP.out (Nat.le_refl _)
    clear ht2 HRP HT
    go_wp2_with fail
    go_ret
    exact ⟨rfl, HFN.out⟩
  · by_cases n2 : kind = 2
    · subst n2
      have HLN : Hid (∀ f ∈ D.files, f.bytes.length ≤ 140737488355328) := fun f hf => by have h1 := len_used hf; have h2 := HX.out.both.ok.fits; have h3 := HX.out.both.ok.r1; omega
      have HGT : Hid _ := mget_at (w := V) (p := p) HX.out.fb HLN.out (fun W hW => read_any (HX.out.dk.later hW) HX.out.both.ok manN)
      obtain ⟨T, HT0⟩ : ∃ T, Hid (T = gtT D.files (D.errO manN)) := ⟨_, rfl⟩
      rw [← HT0.out] at HGT
      obtain ⟨⟨y0, y1, y2, y3, y4⟩, B, E⟩ := T
      go_enter Tryz.func8, Tryz.ntmps8
      go_upto_region 1 with fail
      rw [← HE.out]
      go_wp2_with fail
      refine Calls.mono HGT.out ?_
      rintro e w1 ⟨rfl, hb1⟩
      obtain ⟨W1, hW1⟩ : ∃ W1, W1 = w1.alloc (.cells #[.int .u32 y0, .int .u32 y1, .int .u32 y2, .int .i64 y3, .int .i64 y4] 35) := ⟨_, rfl⟩
      have hb2 : Below V.heap.size V W1 := by rw [hW1]; exact Below.step hb1 (one_allocK _ _)
      have r1 : W1.heap[w1.heap.size]? = some (.cells #[.int .u32 y0, .int .u32 y1, .int .u32 y2, .int .i64 y3, .int .i64 y4] 35 (0, 0)) := by rw [hW1]; exact heap_alloc_new w1 _
      have HRG : Hid _ := rget_at (w := W1) (p := q) (fs := D.files) (E := D.errO manN) HX.out.fb HLN.out (fun W hW => by
        have h9 := refRead_any (HX.out.rd.later (Below.step hb2 hW)) HX.out.rok manN (by decide)
        have eE : R.errO manN = D.errO manN := by unfold RD.errO DkD.errO; rw [HX.out.both.play.on, HX.out.both.play.files]
        rw [eE, HX.out.both.play.files] at h9
        exact h9)
      rw [← HT0.out] at HRG
      have HA1 : Hid _ := hW1
      have HB1 : Hid (Below V.heap.size V W1 ∧ W1.heap[w1.heap.size]? = some (.cells #[.int .u32 y0, .int .u32 y1, .int .u32 y2, .int .i64 y3, .int .i64 y4] 35 (0, 0))) := ⟨hb2, r1⟩
      have lq1 : q < W1.heap.size := Nat.lt_of_lt_of_le hlq hb2.size
      clear hW1 hb1 hb2 r1 HGT HT0 HLN
      go_upto_region 7 with fail
      rw [← HA1.out]
      clear HA1
      go_wp2_with fail
      refine Calls.mono HRG.out ?_
      rintro e w2 ⟨rfl, hb3⟩
      obtain ⟨W2, hW2⟩ : ∃ W2, W2 = w2.alloc (.cells #[.int .u32 y0, .int .u32 y1, .int .u32 y2, .int .i64 y3, .int .i64 y4] 35) := ⟨_, rfl⟩
      have hb4 : Below W1.heap.size W1 W2 := by rw [hW2]; exact Below.step hb3 (one_allocK _ _)
      have r2 : W2.heap[w2.heap.size]? = some (.cells #[.int .u32 y0, .int .u32 y1, .int .u32 y2, .int .i64 y3, .int .i64 y4] 35 (0, 0)) := by rw [hW2]; exact heap_alloc_new w2 _
      have r1 := (Below.kept hb4).heap HB1.out.2 (fun e => by have := lt_of_block HB1.out.2; omega)
      have x0 := cell_of_row W2 _ 0 _ _ _ r1
      have x1 := cell_of_row W2 _ 1 _ _ _ r1
      have x2 := cell_of_row W2 _ 2 _ _ _ r1
      have x3 := cell_of_row W2 _ 3 _ _ _ r1
      have x4 := cell_of_row W2 _ 4 _ _ _ r1
      have z0 := cell_of_row W2 _ 0 _ _ _ r2
      have z1 := cell_of_row W2 _ 1 _ _ _ r2
      have z2 := cell_of_row W2 _ 2 _ _ _ r2
      have z3 := cell_of_row W2 _ 3 _ _ _ r2
      have z4 := cell_of_row W2 _ 4 _ _ _ r2
      simp only [List.getElem?_toArray, List.getElem?_cons_zero, List.getElem?_cons_succ] at x0 x1 x2 x3 x4 z0 z1 z2 z3 z4
      have l1 := lt_of_block r1
      have l2 := lt_of_block r2
      have HFN : Hid _ := HX.out.same (Below.step HB1.out.1 hb4)
      have HA2 : Hid _ := hW2
      have hq : ∀ W : World, (binOp .eql 35 (.agg #[.int .u32 y0, .int .u32 y1, .int .u32 y2, .int .i64 y3, .int .i64 y4]) (.agg #[.int .u32 y0, .int .u32 y1, .int .u32 y2, .int .i64 y3, .int .i64 y4])).run Tryz.prog W = .ok (.bool true) W := fun W => by
        have := eqMan ⟨y0, y1, y2, y3, y4⟩ ⟨y0, y1, y2, y3, y4⟩ W
        rw [eqM_self] at this
        exact this
      have hb5 : (E == E) = true := by simp
      clear hW2 hb3 hb4 r1 r2 HRG
      go_upto_region 8 with fail
      rw [← HA2.out]
      clear HA2
      cases B <;> (go_wp2_with fail; go_ret; exact ⟨rfl, HFN.out⟩)
    · by_cases n3 : kind = 3
      · subst n3
        obtain ⟨X, HX1⟩ : ∃ X, Hid (X = actK D ⟨1, fileN nn, fileN nn, none, 0, pp, 0, none, 0, []⟩) := ⟨_, rfl⟩
        obtain ⟨Y, HY1⟩ : ∃ Y, Hid (Y = wantK R ⟨1, fileN nn, fileN nn, none, 0, pp, 0, none, 0, []⟩) := ⟨_, rfl⟩
        have HPP : Hid (PlayP D X.2 Y.2 X.1 Y.1 1 R.more) := by rw [HX1.out, HY1.out]; exact playP_want HX.out.both.play HX.out.both.calm HX.out.both.ok HX.out.fb _ HX.out.op.byts
        have hdk : IsDk V.drew p fv ms D := HX.out.dk.later (below_drewN (Below.refl _ _) 1)
        have HAP0 : Hid (Calls Tryz.prog 22 #[.pointer (some ⟨p, 0, none⟩), .string (fileN nn), .slice pa pp.length pc] V.drew (ActTo V.drew p fv ms X)) := by
          rw [HX1.out]
          exact append_any hdk HX.out.both.ok (by have := HX.out.wr hk; omega) (fileN nn) _ pp (HX.out.op.see.below (below_drewN (Below.refl _ _) 1) (Nat.le_refl _)) (fun hy j e => by have := HX.out.bp hy j e; exact ⟨by have := HX.out.sz; have : V.drew.heap.size = V.heap.size := rfl; omega, this.2.1⟩) HPL.out
        have HAP : Hid (Calls Tryz.prog 22 #[.pointer (some ⟨p, 0, none⟩), .string (fileN nn), .slice pa pp.length pc] V.drew fun e w' => e = .returned (.int .i64 X.1) ∧ (w'.cell? ⟨w.heap.size, 7, none⟩ = some (.int .i64 nn) ∧ w'.cell? ⟨w.heap.size, 6, none⟩ = some (.slice pa pp.length pc)) ∧ w.heap.size < w'.heap.size ∧ q < w'.heap.size ∧ Hid (∃ fv1 ms1, DkTo V p fv ms w' X.2 fv1 ms1)) := by
          refine Calls.mono HAP0.out ?_
          rintro e w1 ⟨rfl, fv1, ms1, ht0⟩
          have ht : DkTo V p fv ms w1 X.2 fv1 ms1 := ⟨ht0.is, ⟨ht0.kept.os, ht0.kept.tape, ht0.kept.output, ht0.kept.size, ht0.kept.block⟩, ht0.foot⟩
          have hrow1 := HX.out.box ht
          simp only [OpM.cells] at hrow1
          exact ⟨rfl, ⟨cell_of_row w1 _ 7 _ _ _ hrow1, cell_of_row w1 _ 6 _ _ _ hrow1⟩, lt_of_block hrow1, lt_of_block (HX.out.rd1 ht).row, fv1, ms1, ht⟩
        clear HAP0 hdk
        generalize hFN : fileN nn = F at *
        have HFI : Hid (∀ W, Calls Tryz.prog 23 #[.int .i64 nn] W fun e w' => e = .returned (.string F) ∧ w' = W) := fun W => by rw [← hFN]; exact file_any nn W
        have HFE : Hid _ := hFN
        clear hFN
        go_enter Tryz.func8, Tryz.ntmps8
        go_upto_region 1 with fail
        rw [← HE.out]
        go_upto_region 10 with fail
        have k0 : V.drew.cell? ⟨w.heap.size, 7, none⟩ = some (.int .i64 nn) ∧ V.drew.cell? ⟨w.heap.size, 6, none⟩ = some (.slice pa pp.length pc) := ⟨d7, d6⟩
        go_region_held (fun w' => w'.cell? ⟨w.heap.size, 7, none⟩ = some (.int .i64 nn) ∧ w'.cell? ⟨w.heap.size, 6, none⟩ = some (.slice pa pp.length pc)) (first | exact k0 | exact k1) (first | (go_at_call 23; refine (HFI.out _).mono ?_; rintro e w9 ⟨rfl, rfl⟩) | (go_at_call 22; refine (HAP.out).mono ?_; rintro e w1 ⟨rfl, k1, hl1, lq1, HT⟩))
        obtain ⟨fv1, ms1, ht⟩ := HT.out
        have HRP0 : Hid (Calls Tryz.prog 24 #[.pointer (some ⟨q, 0, none⟩), .string F, .slice pa pp.length pc] w1.drew (RctTo w1.drew q rv vs Y)) := by
          rw [HY1.out, ← HFE.out]
          exact refAppend_any ((HX.out.rd1 ht).later (below_drewN (Below.refl _ _) 1)) HX.out.rok (fileN nn) (fileN_size nn) _ pp ((HX.out.op1 ht).see.below (below_drewN (Below.refl _ _) 1) (Nat.le_refl _)) (fun hy j e => by have := HX.out.bp hy j e; exact ⟨by have h8 := HX.out.sz; have h9 : (w1.drewN 1).heap.size = w1.heap.size := rfl; show j < (w1.drewN 1).heap.size; omega, this.2.2⟩) HPL.out
        have HRP : Hid (Calls Tryz.prog 24 #[.pointer (some ⟨q, 0, none⟩), .string F, .slice pa pp.length pc] w1.drew fun e w' => e = .returned (.int .i64 Y.1) ∧ (w'.cell? ⟨w.heap.size, 7, none⟩ = some (.int .i64 nn) ∧ w'.cell? ⟨w.heap.size, 6, none⟩ = some (.slice pa pp.length pc)) ∧ Hid (∃ D' R', Both w0 w' p q D' R' (k + 4) ∧ FB D'.files)) := by
          refine Calls.mono HRP0.out ?_
          rintro e w2 ⟨rfl, rv1, vs1, ht0⟩
          have ht2 : RdTo w1 q rv vs w2 Y.2 rv1 vs1 := ⟨ht0.is, ⟨ht0.kept.os, ht0.kept.tape, ht0.kept.output, ht0.kept.size, ht0.kept.block⟩, ht0.foot⟩
          have hrow2 := ht2.kept.heap (HX.out.box ht) HX.out.nr
          simp only [OpM.cells] at hrow2
          exact ⟨rfl, ⟨cell_of_row w2 _ 7 _ _ _ hrow2, cell_of_row w2 _ 6 _ _ _ hrow2⟩, HX.out.fin ht ht2 HPP.out (by omega)⟩
        clear ht HRP0 HAP HX1 HY1 HX HT
        obtain ⟨E, D1⟩ := X
        obtain ⟨E', R1⟩ := Y
        obtain rfl : E' = E := HPP.out.err
        have hbq : (E' == E') = true := by simp
        go_upto_region 11 with fail
        have k2 : w1.drew.cell? ⟨w.heap.size, 7, none⟩ = some (.int .i64 nn) ∧ w1.drew.cell? ⟨w.heap.size, 6, none⟩ = some (.slice pa pp.length pc) := k1
        clear k0
        go_region_held (fun w' => w'.cell? ⟨w.heap.size, 7, none⟩ = some (.int .i64 nn) ∧ w'.cell? ⟨w.heap.size, 6, none⟩ = some (.slice pa pp.length pc)) (first | exact k2 | exact k3) (first | (go_at_call 23; refine (HFI.out _).mono ?_; rintro e w9 ⟨rfl, rfl⟩) | (go_at_call 24; refine (HRP.out).mono ?_; rintro e w2 ⟨rfl, k3, HFN⟩))
        go_wp2_with fail
        go_ret
        exact ⟨rfl, HFN.out⟩
      · by_cases n4 : kind = 4
        · subst n4
          obtain ⟨X, HX1⟩ : ∃ X, Hid (X = actK D ⟨2, fileN nn, fileN nn, none, 0, [], 0, none, 0, []⟩) := ⟨_, rfl⟩
          obtain ⟨Y, HY1⟩ : ∃ Y, Hid (Y = wantK R ⟨2, fileN nn, fileN nn, none, 0, [], 0, none, 0, []⟩) := ⟨_, rfl⟩
          have HPP : Hid (PlayP D X.2 Y.2 X.1 Y.1 1 R.more) := by rw [HX1.out, HY1.out]; exact playP_want HX.out.both.play HX.out.both.calm HX.out.both.ok HX.out.fb _ (fun x hx => by simp at hx)
          have HAP : Hid (Calls Tryz.prog 25 #[.pointer (some ⟨p, 0, none⟩), .string (fileN nn)] V (ActTo V p fv ms X)) := by
            rw [HX1.out]
            exact sync_any HX.out.dk HX.out.both.ok (by have := HX.out.wr hk; omega) (fileN nn)
          go_enter Tryz.func8, Tryz.ntmps8
          go_upto_region 1 with fail
          rw [← HE.out]
          go_wp2_with fail
          refine (file_any nn V).mono ?_
          rintro e w9 ⟨rfl, hw9⟩
          subst hw9
          go_wp2_with fail
          refine Calls.mono HAP.out ?_
          rintro e w1 ⟨rfl, fv1, ms1, ht⟩
          have hrow1 := HX.out.box ht
          simp only [OpM.cells] at hrow1
          have x0 := cell_of_row w1 _ 0 _ _ _ hrow1
          have x1 := cell_of_row w1 _ 1 _ _ _ hrow1
          have x2 := cell_of_row w1 _ 2 _ _ _ hrow1
          have x3 := cell_of_row w1 _ 3 _ _ _ hrow1
          have x4 := cell_of_row w1 _ 4 _ _ _ hrow1
          have x5 := cell_of_row w1 _ 5 _ _ _ hrow1
          have x6 := cell_of_row w1 _ 6 _ _ _ hrow1
          have x7 := cell_of_row w1 _ 7 _ _ _ hrow1
          have x8 := cell_of_row w1 _ 8 _ _ _ hrow1
          simp only [List.getElem?_toArray, List.getElem?_cons_zero, List.getElem?_cons_succ] at x0 x1 x2 x3 x4 x5 x6 x7 x8
          have hl1 := lt_of_block hrow1
          have HRP : Hid (Calls Tryz.prog 26 #[.pointer (some ⟨q, 0, none⟩), .string (fileN nn)] w1 (RctTo w1 q rv vs Y)) := by
            rw [HY1.out]
            exact refSync_any (HX.out.rd1 ht) HX.out.rok (fileN nn) (fileN_size nn)
          have HT : Hid _ := ht
          clear ht hrow1 HAP HX1 HY1
          obtain ⟨E, D1⟩ := X
          obtain ⟨E', R1⟩ := Y
          obtain rfl : E' = E := HPP.out.err
          have hbq : (E' == E') = true := by simp
          go_wp2_with fail
          refine (file_any nn w1).mono ?_
          rintro e w8 ⟨rfl, hw8⟩
          subst hw8
          go_wp2_with fail
          refine Calls.mono HRP.out ?_
          rintro e w2 ⟨rfl, rv1, vs1, ht2⟩
          have HFN : Hid _ := HX.out.fin HT.out ht2 HPP.out (by omega)
          clear ht2 HRP HT
          go_wp2_with fail
          go_ret
          exact ⟨rfl, HFN.out⟩
        · by_cases n5 : kind = 5
          · subst n5
            have HAR : Hid _ := arm_any HX.out.dk nn
            go_enter Tryz.func8, Tryz.ntmps8
            go_upto_region 1 with fail
            rw [← HE.out]
            go_wp2_with fail
            refine Calls.mono HAR.out ?_
            rintro e w1 ⟨rfl, ht⟩
            have hrow1 := HX.out.box ht
            simp only [OpM.cells] at hrow1
            have x0 := cell_of_row w1 _ 0 _ _ _ hrow1
            have x1 := cell_of_row w1 _ 1 _ _ _ hrow1
            have x2 := cell_of_row w1 _ 2 _ _ _ hrow1
            have x3 := cell_of_row w1 _ 3 _ _ _ hrow1
            have x4 := cell_of_row w1 _ 4 _ _ _ hrow1
            have x5 := cell_of_row w1 _ 5 _ _ _ hrow1
            have x6 := cell_of_row w1 _ 6 _ _ _ hrow1
            have x7 := cell_of_row w1 _ 7 _ _ _ hrow1
            have x8 := cell_of_row w1 _ 8 _ _ _ hrow1
            simp only [List.getElem?_toArray, List.getElem?_cons_zero, List.getElem?_cons_succ] at x0 x1 x2 x3 x4 x5 x6 x7 x8
            have hl1 := lt_of_block hrow1
            have HRA : Hid _ := refArm_any (HX.out.rd1 ht) nn
            have HT : Hid _ := ht
            clear ht hrow1 HAR
            go_wp2_with fail
            refine Calls.mono HRA.out ?_
            rintro e w2 ⟨rfl, ht2⟩
            have HFN : Hid (∃ D' R', Both w0 w2 p q D' R' (k + 4) ∧ FB D'.files) := ⟨_, _, Both.both HX.out.both HX.out.rd HX.out.ap HX.out.h4 HX.out.h5 HT.out ht2 (DkOk.arm HX.out.both.ok nn HX.out.op.n1) (calm_arm D HX.out.both.calm nn) (play_arm HX.out.both.play nn) (by unfold RD.arm; split; exact HX.out.op.n1; exact HX.out.both.more) (by have h1 : (D.arm nn).writes = D.writes := by { unfold DkD.arm; split <;> rfl }; rw [h1]; have := HX.out.both.writes; omega), by have h1 : (D.arm nn).files = D.files := by { unfold DkD.arm; split <;> rfl }; rw [h1]; exact HX.out.fb⟩
            clear ht2 HRA HT
            go_wp2_with fail
            go_ret
            exact ⟨rfl, HFN.out⟩
          · by_cases n6 : kind = 6
            · subst n6
              have HOF : Hid _ := off_any HX.out.dk
              go_enter Tryz.func8, Tryz.ntmps8
              go_upto_region 1 with fail
              rw [← HE.out]
              go_wp2_with fail
              refine Calls.mono HOF.out ?_
              rintro e w1 ⟨rfl, ht⟩
              have hrow1 := HX.out.box ht
              have hl1 := lt_of_block hrow1
              have hlq1 := lt_of_block (HX.out.rd1 ht).row
              have HRO : Hid _ := refOff_any (HX.out.rd1 ht)
              have HT : Hid (DkTo V p fv ms w1 D.off fv ms ∧ w1.heap[w.heap.size]? = some (.cells (OpM.cells ⟨6, ⟨boot, acc, cur, snap, log⟩, pa, pc, pp, nn, ka, kc, keep⟩).toArray 39 (0, 0))) := ⟨ht, hrow1⟩
              clear ht hrow1 HOF
              go_wp2_with fail
              refine Calls.mono HRO.out ?_
              rintro e w2 ⟨rfl, ht2⟩
              have hrow2 := ht2.kept.heap HT.out.2 HX.out.nr
              have hop2 := (HX.out.op1 HT.out.1).kept ht2.kept (fun j hj e => by have := HX.out.h5 j e; omega)
              have hd2 := both_rd HT.out.1.is HX.out.ap ht2
              have hB2 : Both w0 w2 p q D.off R.off k := Both.both HX.out.both HX.out.rd HX.out.ap HX.out.h4 HX.out.h5 HT.out.1 ht2 (DkOk.off HX.out.both.ok) (calm_off D HX.out.both.calm) (play_off HX.out.both.play HX.out.both.calm) HX.out.both.more (by have h1 : D.off.writes = D.writes := by { unfold DkD.off; split <;> rfl }; rw [h1]; exact HX.out.both.writes)
              have hfb2 : FB D.off.files := by have h1 : D.off.files = D.files := by { unfold DkD.off; split <;> rfl }; rw [h1]; exact HX.out.fb
              have hl2 := lt_of_block hrow2
              have hlp2 := lt_of_block hd2.1.row
              have H2 : Hid (StM w0 w w2 p q D.off R.off k fv ms rv vs ⟨6, ⟨boot, acc, cur, snap, log⟩, pa, pc, pp, nn, ka, kc, keep⟩) := ⟨hd2.1, ht2.is, HX.out.ap, HX.out.h4, HX.out.h5, hB2, hB2.rdOk (by omega), hop2, HX.out.nd, HX.out.nr, hrow2, hfb2, HX.out.sz⟩
              simp only [OpM.cells] at hrow2
              have x0 := cell_of_row w2 _ 0 _ _ _ hrow2
              have x1 := cell_of_row w2 _ 1 _ _ _ hrow2
              have x2 := cell_of_row w2 _ 2 _ _ _ hrow2
              have x3 := cell_of_row w2 _ 3 _ _ _ hrow2
              have x4 := cell_of_row w2 _ 4 _ _ _ hrow2
              have x5 := cell_of_row w2 _ 5 _ _ _ hrow2
              have x6 := cell_of_row w2 _ 6 _ _ _ hrow2
              have x7 := cell_of_row w2 _ 7 _ _ _ hrow2
              have x8 := cell_of_row w2 _ 8 _ _ _ hrow2
              simp only [List.getElem?_toArray, List.getElem?_cons_zero, List.getElem?_cons_succ] at x0 x1 x2 x3 x4 x5 x6 x7 x8
              clear ht2 hrow2 hop2 hd2 hB2 hfb2 HRO HT HX HE
              generalize D.off = DO at *
              generalize R.off = RO at *
              by_cases hn : 0 ≤ nn
              rotate_left
              · have hn' : decide (0 ≤ nn) = false := decide_eq_false hn
                go_wp2_with fail
                go_ret
                obtain ⟨D', R', ha, hb⟩ := H2.out.same (Below.refl w2.heap.size w2)
                exact ⟨rfl, D', R', ha, hb⟩
              have hn' : decide (0 ≤ nn) = true := decide_eq_true hn
              have HST : Hid _ := start_any H2.out.dk H2.out.both.ok (.slice ka keep.length kc) keep H2.out.op.keep (fun hy j e hm => (H2.out.bk hy j e).2.1 hm)
              go_wp2_with fail
              refine Calls.mono HST.out ?_
              rintro e w3 ⟨rfl, ms3, ht3⟩
              have hrow3 := H2.out.box ht3
              simp only [OpM.cells] at hrow3
              have y8 := cell_of_row w3 _ 8 _ _ _ hrow3
              simp only [List.getElem?_toArray, List.getElem?_cons_zero, List.getElem?_cons_succ] at y8
              have hl3 := lt_of_block hrow3
              have hlq3 := lt_of_block (H2.out.rd1 ht3).row
              have HRS : Hid _ := refStart_any (H2.out.rd1 ht3) H2.out.rok (by rw [H2.out.both.play.files]; exact H2.out.both.ok.durs) (.slice ka keep.length kc) keep (H2.out.op1 ht3).keep (fun hy j e hm => (H2.out.bk hy j e).2.2 hm)
              have HT3 : Hid _ := ht3
              clear ht3 hrow3 HST
              go_wp2_with fail
              refine Calls.mono HRS.out ?_
              rintro e w4 ⟨rfl, rv4, vs4, ht4⟩
              have HFN : Hid (∃ D' R', Both w0 w4 p q D' R' (k + 4) ∧ FB D'.files) := ⟨_, _, Both.both H2.out.both H2.out.rd H2.out.ap H2.out.h4 H2.out.h5 HT3.out ht4 (DkOk.start H2.out.both.ok keep) (calm_start DO keep) (play_start H2.out.both.play keep) (by have h1 : (RO.start keep).more = RO.more := by { unfold RD.start; split <;> rfl }; rw [h1]; exact H2.out.both.more) (by have h1 : (DO.start keep).writes = DO.writes := by { unfold DkD.start; split <;> rfl }; rw [h1]; have := H2.out.both.writes; omega), by
                unfold DkD.start
                split
                · exact H2.out.fb
                · exact H2.out.fb.loss keep⟩
              clear ht4 HRS HT3
              go_wp2_with fail
              go_ret
              exact ⟨rfl, HFN.out⟩
            · by_cases n7 : kind = 7
              · subst n7
                obtain ⟨X, HX1⟩ : ∃ X, Hid (X = actK D ⟨5, fileN nn, fileN nn, none, 0, [], 0, none, 0, []⟩) := ⟨_, rfl⟩
                obtain ⟨Y, HY1⟩ : ∃ Y, Hid (Y = wantK R ⟨5, fileN nn, fileN nn, none, 0, [], 0, none, 0, []⟩) := ⟨_, rfl⟩
                have HPP : Hid (PlayP D X.2 Y.2 X.1 Y.1 1 R.more) := by rw [HX1.out, HY1.out]; exact playP_want HX.out.both.play HX.out.both.calm HX.out.both.ok HX.out.fb _ (fun x hx => by simp at hx)
                have HAP : Hid (Calls Tryz.prog 27 #[.pointer (some ⟨p, 0, none⟩), .string (fileN nn)] V (ActTo V p fv ms X)) := by
                  rw [HX1.out]
                  exact remove_any HX.out.dk HX.out.both.ok (by have := HX.out.wr hk; omega) (fileN nn)
                go_enter Tryz.func8, Tryz.ntmps8
                go_upto_region 1 with fail
                rw [← HE.out]
                go_wp2_with fail
                refine (file_any nn V).mono ?_
                rintro e w9 ⟨rfl, hw9⟩
                subst hw9
                go_wp2_with fail
                refine Calls.mono HAP.out ?_
                rintro e w1 ⟨rfl, fv1, ms1, ht⟩
                have hrow1 := HX.out.box ht
                simp only [OpM.cells] at hrow1
                have x0 := cell_of_row w1 _ 0 _ _ _ hrow1
                have x1 := cell_of_row w1 _ 1 _ _ _ hrow1
                have x2 := cell_of_row w1 _ 2 _ _ _ hrow1
                have x3 := cell_of_row w1 _ 3 _ _ _ hrow1
                have x4 := cell_of_row w1 _ 4 _ _ _ hrow1
                have x5 := cell_of_row w1 _ 5 _ _ _ hrow1
                have x6 := cell_of_row w1 _ 6 _ _ _ hrow1
                have x7 := cell_of_row w1 _ 7 _ _ _ hrow1
                have x8 := cell_of_row w1 _ 8 _ _ _ hrow1
                simp only [List.getElem?_toArray, List.getElem?_cons_zero, List.getElem?_cons_succ] at x0 x1 x2 x3 x4 x5 x6 x7 x8
                have hl1 := lt_of_block hrow1
                have HRP : Hid (Calls Tryz.prog 28 #[.pointer (some ⟨q, 0, none⟩), .string (fileN nn)] w1 (RctTo w1 q rv vs Y)) := by
                  rw [HY1.out]
                  exact refRemove_any (HX.out.rd1 ht) HX.out.rok (fileN nn) (fileN_size nn)
                have HT : Hid _ := ht
                clear ht hrow1 HAP HX1 HY1
                obtain ⟨E, D1⟩ := X
                obtain ⟨E', R1⟩ := Y
                obtain rfl : E' = E := HPP.out.err
                have hbq : (E' == E') = true := by simp
                go_wp2_with fail
                refine (file_any nn w1).mono ?_
                rintro e w8 ⟨rfl, hw8⟩
                subst hw8
                go_wp2_with fail
                refine Calls.mono HRP.out ?_
                rintro e w2 ⟨rfl, rv1, vs1, ht2⟩
                have HFN : Hid _ := HX.out.fin HT.out ht2 HPP.out (by omega)
                clear ht2 HRP HT
                go_wp2_with fail
                go_ret
                exact ⟨rfl, HFN.out⟩
              · have hx := HX
                have e1 : (kind == 1) = false := by simpa using n1
                have e2 : (kind == 2) = false := by simpa using n2
                have e3 : (kind == 3) = false := by simpa using n3
                have e4 : (kind == 4) = false := by simpa using n4
                have e5 : (kind == 5) = false := by simpa using n5
                have e6 : (kind == 6) = false := by simpa using n6
                have e7 : (kind == 7) = false := by simpa using n7
                go_enter Tryz.func8, Tryz.ntmps8
                go_upto_region 1 with fail
                rw [← HE.out]
                go_wp2_with fail
                go_ret
                obtain ⟨D', R', ha, hb⟩ := HX.out.same (Below.refl V.heap.size V)
                exact ⟨rfl, D', ⟨R', ha⟩, hb⟩
end Go.Proofs.YtdbphdllibffnaaGreat
