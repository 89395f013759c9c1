/- LinkPlays' does: Tell, walked. -/
import Derived.Test.YtghngopclhhoeaaDoorLpTJ
import Derived.Test.YtghngopclhhoeaaDoorLpSJ
namespace Go.Proofs.YtghngopclhhoeaaDoor
open Go.RowKit
set_option maxRecDepth 8000
set_option linter.unusedSimpArgs false
set_option linter.unusedVariables false

/-- What the last comparison reads. -/
structure TlS (V : World) (R : PlR) (va : Option Addr) (vc : Nat) : Prop where
  x0 : V.cell? ⟨R.x, 0, none⟩ = some (.pointer (some ⟨R.N, 0, none⟩))
  x1 : V.cell? ⟨R.x, 1, none⟩ = some (.pointer (some ⟨R.d, 0, none⟩))
  d1 : V.cell? ⟨R.d, 1, none⟩ = some (.slice va R.L.length vc)
  zx : R.x < V.heap.size
  zd : R.d < V.heap.size
theorem TlS.of {V : World} {own : Nat → Nat} {p : Nat} {R : PlR} {va : Option Addr} {vc : Nat} (h : Pq V own p R) (hv : R.V = .slice va R.L.length vc) : TlS V R va vc :=
  ⟨by rw [cell_of_row _ _ 0 _ _ _ h.row]; rfl, by rw [cell_of_row _ _ 1 _ _ _ h.row]; rfl, by rw [← hv]; exact h.dn.c1, lt_of_block h.row, lt_of_block h.dn.hb⟩
theorem outs_slice (G : Nat) (l : List MsD) : ∀ i, i < l.length → ∃ a n c, (msFlat (outL G 0 l))[i * 4 + 2]? = some (.slice a n c) := fun i hi =>
  ⟨_, _, _, (msFlat_at _ i _ (outL_at G 0 l i _ (List.getElem?_eq_getElem hi))).2.2.1⟩
/-- A bag's Apart over lists that All made leaves the elder memory. -/
theorem apart_keptM {W w w1 w' : World} {ps : List Pc} {ms : List Rw} (hk : Kept W w (fun _ => False)) (hT : Turned w w1 (feet ps)) (h2 : Kept w1 w' (BlkR ms)) (hp : ∀ q ∈ ps, ∀ k, q.val.ownBlock = some k → W.heap.size ≤ k) (hm : ∀ k, BlkR ms k → W.heap.size ≤ k) : Kept W w' (fun _ => False) :=
  (hk.trans (turned_keptM hT) (fun k hkl e => by obtain ⟨q, hq, e⟩ := e; have := hp q hq k e; omega)).trans h2 (fun k hkl e => by have := hm k e; omega)

section
variable {W : World} {own : Nat → Nat} {p : Nat} {R : PlR}
set_option maxHeartbeats 16000000 in
theorem does_tell (h : Pq W own p R) (hal : AlikeG (R.l.map MsD.gd) R.L) (hl : R.l.length ≤ 99999999) (ht : Tab W) (hg0 : 0 < W.heap.size) (on f t : Int) (bv : Value) (pl k xx : Int) :
    Calls Tryd.prog 8 #[.pointer (some ⟨R.x, 0, none⟩), .agg #[.int .i64 5, .int .i64 on, .int .i8 f, .int .i8 t, bv, .int .i64 pl, .int .i64 k, .int .u8 xx]] W fun e w' => e = .returned (.bool true) ∧ Hid (Kept W w' (fun _ => False)) := by
  have HLl : Hid (R.L.length = R.l.length) := by have := hal.1; show _ = _; simpa using this.symm
  have hlq : ((R.l.length : Int) == (R.L.length : Int)) = true := by rw [HLl.out]; simp
  have HG : Hid (Tab W ∧ 0 < W.heap.size ∧ AlikeG (R.l.map MsD.gd) R.L ∧ (∀ m ∈ R.l, m.bs.length ≤ 8192)) := ⟨ht, hg0, hal, fun m hm => (h.nt.hm m hm).hi⟩
  have HTab : Hid (∀ V, Kept W V (fun _ => False) → Tab V ∧ 0 < V.heap.size) := fun V hV => ⟨tab_same ht (hV.block _ hg0 id), Nat.lt_of_lt_of_le hg0 hV.size⟩
  obtain ⟨va, vc, hvv⟩ := rowSl h.dn.ow.row
  have HV : Hid (R.V = .slice va R.L.length vc) := hvv
  have HQ : Hid (∀ V, Kept W V (fun _ => False) → Pq V own p R) := fun V hV => h.new hV
  have HS : Hid (∀ V, Kept W V (fun _ => False) → TlS V R va vc) := fun V hV => TlS.of (h.new hV) hvv
  clear ht hg0 hal hvv
  obtain ⟨bx, hbx⟩ : ∃ b, b = W.heap.size := ⟨_, rfl⟩
  obtain ⟨W0, hW0⟩ : ∃ W0, W0 = W.alloc (.cells #[.int .i64 5, .int .i64 on, .int .i8 f, .int .i8 t, bv, .int .i64 pl, .int .i64 k, .int .u8 xx] 41) := ⟨_, rfl⟩
  have H0 : Hid (Kept W W0 (fun _ => False)) := by rw [hW0]; exact (Kept.refl _ _).alloc _
  have hrb : W0.heap[bx]? = some (.cells #[.int .i64 5, .int .i64 on, .int .i8 f, .int .i8 t, bv, .int .i64 pl, .int .i64 k, .int .u8 xx] 41 (0, 0)) := by rw [hbx, hW0]; exact heap_alloc_new _ _
  have HW0 : Hid (W.alloc (.cells #[.int .i64 5, .int .i64 on, .int .i8 f, .int .i8 t, bv, .int .i64 pl, .int .i64 k, .int .u8 xx] 41) = W0) := hW0.symm
  have HBx : Hid (W.heap.size = bx) := hbx.symm
  have k0 : W0.cell? ⟨bx, 0, none⟩ = some (.int .i64 5) := by rw [cell_of_row _ _ 0 _ _ _ hrb]; rfl
  have zb : bx < W0.heap.size := lt_of_block hrb
  clear h hW0 hbx hrb
  have HA : Hid _ := all_anyL (HQ.out W0 H0.out).nt (by omega)
  go_enter Tryd.func8, Tryd.ntmps8
  go_upto_region 1 with fail
  rw [HW0.out, HBx.out]
  clear HW0 HBx
  obtain ⟨x0, x1, d1, zx, zd⟩ := HS.out W0 H0.out
  go_wp2_with fail
  refine Calls.mono HA.out ?_
  rintro _ w1 ⟨G, O, rfl, hG, hO, hrO, hrG, hb1⟩
  have H1 : Hid (Kept W w1 (fun _ => False) ∧ AlO w1 R.l G O ∧ W.heap.size ≤ G ∧ W.heap.size ≤ O) := ⟨H0.out.trans (bel_keptQ hb1) (fun _ _ e => e.elim), ⟨hrO, hrG⟩, Nat.le_trans H0.out.size hG, Nat.le_trans H0.out.size hO⟩
  clear hG hO hrO hrG hb1 HA k0 zb x0 x1 d1 zx zd
  have HA : Hid _ := all_anyL (HQ.out w1 H1.out.1).nt (by omega)
  obtain ⟨x0, x1, d1, zx, zd⟩ := HS.out w1 H1.out.1
  go_wp2_with fail
  refine Calls.mono HA.out ?_
  rintro _ w2 ⟨G2, O2, rfl, hG, hO, hrO, hrG, hb2⟩
  have H2 : Hid ((Kept W w2 (fun _ => False)) ∧ (AlO w2 R.l G O ∧ AlO w2 R.l G2 O2) ∧ (W.heap.size ≤ G ∧ W.heap.size ≤ O ∧ W.heap.size ≤ G2 ∧ W.heap.size ≤ O2) ∧ (G ≠ G2 ∧ G ≠ O2 ∧ O ≠ G2 ∧ O ≠ O2 ∧ G ≠ O ∧ G2 ≠ O2)) := by
    have hk := bel_keptQ hb2
    have ha := H1.out.2.1.kept hk id id
    have l1 := lt_of_block H1.out.2.1.row
    have l2 := lt_of_block H1.out.2.1.bys
    have hs := H1.out.1.size
    refine ⟨H1.out.1.trans hk (fun _ _ e => e), ⟨ha, ⟨hrO, hrG⟩⟩, ⟨H1.out.2.2.1, H1.out.2.2.2, by omega, by omega⟩, by omega, by omega, by omega, by omega, fun e => ?_, fun e => ?_⟩
    · have e1 := ha.row; have e2 := ha.bys; rw [e] at e2; rw [e1] at e2; simp at e2
    · rw [e] at hrG; rw [hrO] at hrG; simp at hrG
  clear hG hO hrO hrG hb2 HA H1 x0 x1 d1 zx zd
  have HEQ : Hid (Calls Tryd.prog 9 #[.slice (some ⟨O, 0, none⟩) R.l.length R.l.length, .slice va R.L.length vc] w2 fun e w' => e = .returned (.bool true) ∧ ∃ n, w' = w2.drewN n) := by
    have hd := (HQ.out w2 H2.out.1).dn.ow.sees
    rw [HV.out] at hd
    exact eqMs_same (H2.out.2.1.1.sees HG.out.2.2.2) hd ((outL_alike G 0 R.l).trans HG.out.2.2.1) (by simp [outL_len]; omega)
  obtain ⟨x0, x1, d1, zx, zd⟩ := HS.out w2 H2.out.1
  go_wp2_with fail
  refine Calls.mono HEQ.out ?_
  rintro _ w3 ⟨rfl, n3, rfl⟩
  obtain ⟨w3, hw3⟩ : ∃ w3, w3 = w2.drewN n3 := ⟨_, rfl⟩
  obtain ⟨w4, hw4⟩ : ∃ w4, w4 = w3.alloc (.cells (bagM nilM nilM) 66) := ⟨_, rfl⟩
  obtain ⟨g, hg⟩ : ∃ g, g = w3.heap.size := ⟨_, rfl⟩
  have H4 : Hid ((Kept W w4 (fun _ => False)) ∧ (AlO w4 R.l G O ∧ AlO w4 R.l G2 O2) ∧ BagM w4 g nilM nilM [] [] W.heap.size ∧ W.heap.size ≤ g ∧ g ≠ G2 ∧ g ≠ O2 ∧ g ≠ G ∧ g ≠ O) := by
    have hk : Kept w2 w4 (fun _ => False) := by rw [hw4, hw3]; exact ((Kept.refl _ _).drewN _).alloc _
    have hs : g = w2.heap.size := by rw [hg, hw3]; rfl
    have hs2 := H2.out.1.size
    have q1 := lt_of_block H2.out.2.1.1.row
    have q2 := lt_of_block H2.out.2.1.1.bys
    have q3 := lt_of_block H2.out.2.1.2.row
    have q4 := lt_of_block H2.out.2.1.2.bys
    refine ⟨H2.out.1.trans hk (fun _ _ e => e), ⟨H2.out.2.1.1.kept hk id id, H2.out.2.1.2.kept hk id id⟩, ?_, by omega, by omega, by omega, by omega, by omega⟩
    rw [hg, hw4]
    exact BagM.new (heap_alloc_new _ _)
  rw [← hw3]
  clear HEQ hw3 x0 x1 d1 zx zd
  go_upto_region 32 with fail
  rw [← hw4, ← hg]
  clear hw4 hg
  have HAM : Hid _ := addMessages_m g nilM nilM [] [] W.heap.size (some ⟨O, 0, none⟩) R.l.length R.l.length (msFlat (outL G 0 R.l)) w4 H4.out.2.2.1 (by simp) H4.out.1.size (by omega) (H4.out.2.1.1.own (by omega)) (outs_slice G R.l)
  have zg : g < w4.heap.size := lt_of_block H4.out.2.2.1.row
  go_wp2_with fail
  refine Calls.mono HAM.out ?_
  rintro _ w5 ⟨rfl, bv5, mv5, hbg5, hk5⟩
  simp only [List.nil_append] at hbg5
  have H5 : Hid ((Kept W w5 (fun _ => False)) ∧ (AlO w5 R.l G O ∧ AlO w5 R.l G2 O2) ∧ BagM w5 g bv5 mv5 ((pcO G R.l).take 600) [.slice (some ⟨O, 0, none⟩) R.l.length R.l.length] W.heap.size) := by
    have hn : ∀ k, (k = g ∨ nilM.ownBlock = some k ∨ nilM.ownBlock = some k) → k = g := fun k e => by
      rcases e with e | e | e
      · exact e
      · cases e
      · cases e
    have q := H4.out.2.2.2
    exact ⟨H4.out.1.trans hk5 (fun k hk e => by have := hn k e; omega), ⟨H4.out.2.1.1.kept hk5 (fun e => q.2.2.2.1 (hn _ e).symm) (fun e => q.2.2.2.2 (hn _ e).symm), H4.out.2.1.2.kept hk5 (fun e => q.2.1 (hn _ e).symm) (fun e => q.2.2.1 (hn _ e).symm)⟩, hbg5⟩
  clear hbg5 hk5 HAM zg
  have HAP : Hid (Calls Tryd.prog 11 #[.pointer (some ⟨g, 0, none⟩)] w5 fun e w' => e = .returned (.bool true) ∧ Kept W w' (fun _ => False) ∧ AlO w' R.l G2 O2 ∧ BagM w' g bv5 mv5 ((pcO G R.l).take 600) [.slice (some ⟨O, 0, none⟩) R.l.length R.l.length] W.heap.size ∧ RowU w' G (totB R.l) ∧ ∃ X, w'.ownsRow 0 72 4 (.slice (some ⟨O, 0, none⟩) R.l.length R.l.length) R.l.length X) := by
    have hps : ∀ q ∈ (pcO G R.l).take 600, Lies w5 5 q ∧ q.n ≤ 8192 ∧ q.val.ownBlock = some G := fun q hq => pcO_lies H5.out.2.1.1.rowU HG.out.2.2.2 q (List.mem_of_mem_take hq)
    have hms : ∀ k, BlkR [⟨.slice (some ⟨O, 0, none⟩) R.l.length R.l.length, R.l.length⟩] k → k = O := fun k e => by
      obtain ⟨j, hj, e⟩ := e
      simp at hj
      subst hj
      have e2 : some O = some k := e
      simpa using e2.symm
    have hgl := (HTab.out _ H5.out.1).2
    refine Calls.mono (bagApart_m g W.heap.size bv5 mv5 ((pcO G R.l).take 600) [⟨.slice (some ⟨O, 0, none⟩) R.l.length R.l.length, R.l.length⟩] (fun _ => msFlat (outL G 0 R.l)) w5 H5.out.2.2 (fun q hq => (hps q hq).1) ((pcO_apart G R.l).takeM 600) (by rw [List.length_take]; omega) (fun q hq => by have := (hps q hq).2.1; omega) (fun x hx => ?_) (fun j hj => ?_) (fun i j hi hj hij => by simp at hi hj; omega) (by simp) (fun j hj => ?_) (fun e => ?_) (HTab.out _ H5.out.1).1 hgl) ?_
    · obtain ⟨q, hq, e⟩ := feet_ownM hx
      rw [(hps q hq).2.2] at e
      have := H2.out.2.2.1.1
      have := HG.out.2.1
      simp at e
      omega
    · simp at hj; subst hj
      exact H5.out.2.1.1.own (by omega)
    · simp at hj; subst hj
      show R.l.length ≤ _
      omega
    · have := hms _ e
      have := H2.out.2.2.1.2.1
      have := HG.out.2.1
      omega
    · rintro e w6 ⟨rfl, wm, hT, hk, _, hbg, X, hX⟩
      have hgO : ∀ q ∈ (pcO G R.l).take 600, ∀ k, q.val.ownBlock = some k → k = G := fun q hq k e => by rw [(hps q hq).2.2] at e; simpa using e.symm
      have hkT := turned_keptM hT
      have nT : ∀ k, k ≠ G → ¬ (∃ q ∈ (pcO G R.l).take 600, q.val.ownBlock = some k) := fun k hne e => by obtain ⟨q, hq, e⟩ := e; exact hne (hgO q hq k e)
      have qd := H2.out.2.2.2
      refine ⟨rfl, apart_keptM H5.out.1 hT hk (fun q hq k e => by rw [hgO q hq k e]; exact H2.out.2.2.1.1) (fun k e => by rw [hms k e]; exact H2.out.2.2.1.2.1), (H5.out.2.1.2.kept hkT (nT _ (fun e => qd.1 e.symm)) (nT _ (fun e => qd.2.1 e.symm))).kept hk (fun e => qd.2.2.1 (hms _ e).symm) (fun e => qd.2.2.2.1 (hms _ e).symm), hbg, (H5.out.2.1.1.rowU.turned hT).kept hk (fun e => qd.2.2.2.2.1 (hms _ e)), X 0, hX 0 (by simp)⟩
  have zg : g < w5.heap.size := lt_of_block H5.out.2.2.row
  go_wp2_with fail
  refine Calls.mono HAP.out ?_
  rintro _ w6 ⟨rfl, a1, a2, a3, a4, a5⟩
  have H6 : Hid (Kept W w6 (fun _ => False) ∧ AlO w6 R.l G2 O2 ∧ BagM w6 g bv5 mv5 ((pcO G R.l).take 600) [.slice (some ⟨O, 0, none⟩) R.l.length R.l.length] W.heap.size ∧ RowU w6 G (totB R.l) ∧ ∃ X, w6.ownsRow 0 72 4 (.slice (some ⟨O, 0, none⟩) R.l.length R.l.length) R.l.length X) := ⟨a1, a2, a3, a4, a5⟩
  clear a1 a2 a3 a4 a5 HAP zg
  have HEQ : Hid (Calls Tryd.prog 9 #[.slice (some ⟨O2, 0, none⟩) R.l.length R.l.length, .slice va R.L.length vc] w6 fun e w' => e = .returned (.bool true) ∧ ∃ n, w' = w6.drewN n) := by
    have hd := (HQ.out w6 H6.out.1).dn.ow.sees
    rw [HV.out] at hd
    exact eqMs_same (H6.out.2.1.sees HG.out.2.2.2) hd ((outL_alike G2 0 R.l).trans HG.out.2.2.1) (by simp [outL_len]; omega)
  obtain ⟨x0, x1, d1, zx, zd⟩ := HS.out w6 H6.out.1
  go_wp2_with fail
  refine Calls.mono HEQ.out ?_
  rintro _ w7 ⟨rfl, n7, rfl⟩
  obtain ⟨w7, hw7⟩ : ∃ w7, w7 = w6.drewN n7 := ⟨_, rfl⟩
  have H7 : Hid (Kept W w7 (fun _ => False) ∧ AlO w7 R.l G2 O2 ∧ BagM w7 g bv5 mv5 ((pcO G R.l).take 600) [.slice (some ⟨O, 0, none⟩) R.l.length R.l.length] W.heap.size ∧ RowU w7 G (totB R.l) ∧ ∃ X, w7.ownsRow 0 72 4 (.slice (some ⟨O, 0, none⟩) R.l.length R.l.length) R.l.length X) := by
    rw [hw7]
    exact ⟨H6.out.1.drewN n7, ⟨H6.out.2.1.row, H6.out.2.1.bys⟩, ⟨H6.out.2.2.1.row, H6.out.2.2.1.bs, H6.out.2.2.1.me⟩, H6.out.2.2.2.1, H6.out.2.2.2.2⟩
  rw [← hw7]
  clear hw7 HEQ H6 x0 x1 d1 zx zd
  have HAM : Hid _ := addMessages_m g bv5 mv5 (pcO G R.l) [.slice (some ⟨O, 0, none⟩) R.l.length R.l.length] W.heap.size (some ⟨O2, 0, none⟩) R.l.length R.l.length (msFlat (outL G2 0 R.l)) w7 H7.out.2.2.1 (by simp) H7.out.1.size (by omega) (H7.out.2.1.own (by omega)) (outs_slice G2 R.l)
  have zg : g < w7.heap.size := lt_of_block H7.out.2.2.1.row
  go_wp2_with fail
  refine Calls.mono HAM.out ?_
  rintro _ w8 ⟨rfl, bv8, mv8, hbg8, hk8⟩
  simp only [List.cons_append, List.nil_append] at hbg8
  have H8 : Hid (Kept W w8 (fun _ => False) ∧ AlO w8 R.l G2 O2 ∧ BagM w8 g bv8 mv8 ((pcO G R.l ++ pcO G2 R.l).take 600) [.slice (some ⟨O, 0, none⟩) R.l.length R.l.length, .slice (some ⟨O2, 0, none⟩) R.l.length R.l.length] W.heap.size ∧ RowU w8 G (totB R.l) ∧ ∃ X, w8.ownsRow 0 72 4 (.slice (some ⟨O, 0, none⟩) R.l.length R.l.length) R.l.length X) := by
    have hb7 := H7.out.2.2.1
    have qg := H4.out.2.2.2
    obtain ⟨X, hX⟩ := H7.out.2.2.2.2
    have hn : ∀ k cs T, w7.heap[k]? = some (.cells cs T (0, 0)) → T ≠ 35 → T ≠ 39 → k ≠ g → ¬ (k = g ∨ mv5.ownBlock = some k ∨ bv5.ownBlock = some k) := fun k cs T hr h1 h2 hg e => by
      rcases e with e | e | e
      · exact hg e
      · exact row_notM hb7.me hr h1 e
      · exact row_notM hb7.bs hr h2 e
    have nG : ¬ (G = g ∨ mv5.ownBlock = some G ∨ bv5.ownBlock = some G) := by
      obtain ⟨cs, hr, _⟩ := H7.out.2.2.2.1
      exact hn G cs _ hr (by decide) (by decide) (fun e => qg.2.2.2.1 e.symm)
    have nO : ∀ k, (Value.slice (some ⟨O, 0, none⟩) R.l.length R.l.length).ownBlock = some k → ¬ (k = g ∨ mv5.ownBlock = some k ∨ bv5.ownBlock = some k) := fun k e => by
      obtain ⟨cs, hr⟩ := rowTl hX e
      have e2 : k = O := by
        have e3 : some O = some k := e
        simpa using e3.symm
      subst e2
      exact hn _ cs _ hr (by decide) (by decide) (fun e => qg.2.2.2.2 e.symm)
    refine ⟨H7.out.1.trans hk8 (fun k hkl e => ?_), H7.out.2.1.kept hk8 (hn G2 _ _ H7.out.2.1.bys (by decide) (by decide) (fun e => qg.2.1 e.symm)) (hn O2 _ _ H7.out.2.1.row (by decide) (by decide) (fun e => qg.2.2.1 e.symm)), hbg8, H7.out.2.2.2.1.kept hk8 nG, X, rowKl hX hk8 nO⟩
    rcases e with e | e | e
    · have := qg.1; omega
    · have := (hb7.me.lt k e).1; omega
    · have := (hb7.bs.lt k e).1; omega
  clear hbg8 hk8 HAM zg H7
  have HAP : Hid (∀ V, V = w8.drew → Calls Tryd.prog 11 #[.pointer (some ⟨g, 0, none⟩)] V fun e w' => e = .returned (.bool true) ∧ Kept W w' (fun _ => False)) := by
    rintro V rfl
    have hpm : ∀ q ∈ (pcO G R.l ++ pcO G2 R.l).take 600, (Lies w8.drew 5 q ∧ q.n ≤ 8192) ∧ (q.val.ownBlock = some G ∨ q.val.ownBlock = some G2) := fun q hq => by
      have hr1 : RowU w8.drew G (totB R.l) := H8.out.2.2.2.1
      have hr2 : RowU w8.drew G2 (totB R.l) := H8.out.2.1.rowU
      rcases List.mem_append.1 (List.mem_of_mem_take hq) with hq | hq
      · obtain ⟨z1, z2, z3⟩ := pcO_lies hr1 HG.out.2.2.2 q hq
        exact ⟨⟨z1, z2⟩, .inl z3⟩
      · obtain ⟨z1, z2, z3⟩ := pcO_lies hr2 HG.out.2.2.2 q hq
        exact ⟨⟨z1, z2⟩, .inr z3⟩
    have hblk : ∀ q ∈ (pcO G R.l ++ pcO G2 R.l).take 600, ∀ k, q.val.ownBlock = some k → W.heap.size ≤ k := fun q hq k e => by
      have w1 := H2.out.2.2.1
      rcases (hpm q hq).2 with e2 | e2
      · rw [e2] at e; simp at e; omega
      · rw [e2] at e; simp at e; omega
    have hms : ∀ k, BlkR [⟨.slice (some ⟨O, 0, none⟩) R.l.length R.l.length, R.l.length⟩, ⟨.slice (some ⟨O2, 0, none⟩) R.l.length R.l.length, R.l.length⟩] k → k = O ∨ k = O2 := fun k e => by
      obtain ⟨j, hj, e⟩ := e
      match j, hj, e with
      | 0, _, e => exact .inl (by have e2 : some O = some k := e; simpa using e2.symm)
      | 1, _, e => exact .inr (by have e2 : some O2 = some k := e; simpa using e2.symm)
    have hmW : ∀ k, BlkR [⟨.slice (some ⟨O, 0, none⟩) R.l.length R.l.length, R.l.length⟩, ⟨.slice (some ⟨O2, 0, none⟩) R.l.length R.l.length, R.l.length⟩] k → W.heap.size ≤ k := fun k e => by
      have w1 := H2.out.2.2.1
      rcases hms k e with rfl | rfl <;> omega
    obtain ⟨X, hX⟩ := H8.out.2.2.2.2
    have hkd : Kept W w8.drew (fun _ => False) := H8.out.1.drewN 1
    have hgl := (HTab.out _ hkd).2
    have hb8 : BagM w8.drew g bv8 mv8 ((pcO G R.l ++ pcO G2 R.l).take 600) ([(⟨.slice (some ⟨O, 0, none⟩) R.l.length R.l.length, R.l.length⟩ : Rw), ⟨.slice (some ⟨O2, 0, none⟩) R.l.length R.l.length, R.l.length⟩].map Rw.v) W.heap.size := ⟨H8.out.2.2.1.row, H8.out.2.2.1.bs, H8.out.2.2.1.me⟩
    have hap : ApartPcs (pcO G R.l ++ pcO G2 R.l) := (pcO_apart G R.l).appM (pcO_apart G2 R.l) (fun a ha b hb k x h1 h2 => by
      have e1 := foot_ownM h1
      have e2 := foot_ownM h2
      have hr1 : RowU w8.drew G (totB R.l) := H8.out.2.2.2.1
      have hr2 : RowU w8.drew G2 (totB R.l) := H8.out.2.1.rowU
      rw [(pcO_lies hr1 HG.out.2.2.2 a ha).2.2] at e1
      rw [(pcO_lies hr2 HG.out.2.2.2 b hb).2.2] at e2
      simp at e1 e2
      exact H2.out.2.2.2.1 (e1.trans e2.symm))
    refine Calls.mono (bagApart_m g W.heap.size bv8 mv8 _ [⟨.slice (some ⟨O, 0, none⟩) R.l.length R.l.length, R.l.length⟩, ⟨.slice (some ⟨O2, 0, none⟩) R.l.length R.l.length, R.l.length⟩] (fun j => if j = 0 then X else msFlat (outL G2 0 R.l)) w8.drew hb8 (fun q hq => (hpm q hq).1.1) (hap.takeM 600) (by rw [List.length_take]; omega) (fun q hq => by have := (hpm q hq).1.2; omega) (fun x hx => ?_) (fun j hj => ?_) (fun i j hi hj hij g1 h1 h2 => ?_) (by simp) (fun j hj => ?_) (fun e => ?_) (HTab.out _ hkd).1 hgl) ?_
    · obtain ⟨q, hq, e⟩ := feet_ownM hx
      have := hblk q hq _ e
      have := HG.out.2.1
      omega
    · match j, hj with
      | 0, _ => exact hX
      | 1, _ => exact H8.out.2.1.own (by omega)
    · have q := H2.out.2.2.2.2.2.2.1
      match i, j, hi, hj, h1, h2 with
      | 0, 0, _, _, _, _ => exact hij rfl
      | 1, 1, _, _, _, _ => exact hij rfl
      | 0, 1, _, _, h1, h2 =>
        have e1 : some O = some g1 := h1
        have e2 : some O2 = some g1 := h2
        exact q (by simpa using e1.trans e2.symm)
      | 1, 0, _, _, h1, h2 =>
        have e1 : some O2 = some g1 := h1
        have e2 : some O = some g1 := h2
        exact q (by simpa using e2.trans e1.symm)
    · match j, hj with
      | 0, _ => show R.l.length ≤ _; omega
      | 1, _ => show R.l.length ≤ _; omega
    · have := hmW _ e
      have := HG.out.2.1
      omega
    · rintro e w9 ⟨rfl, wm, hT, hk, _⟩
      exact ⟨rfl, apart_keptM hkd hT hk hblk hmW⟩
  have hs8 : TlS w8.drew R va vc := HS.out _ (H8.out.1.drewN 1)
  have hzg : g < w8.heap.size := lt_of_block H8.out.2.2.1.row
  go_wp2_with fail
  refine wp_region_held_drew (S := (fun V => TlS V R va vc)) (by kernel_rfl) ?_ (fun hHeld => ?_)
  · exact hs8
  refine wpAnyH_take (i := 0) (oi := { dst := some 248, op := Op.move (Operand.tmp 18), type := 4, pos := "law.go:96", after := #[], guard := none }) (v := ?_) rfl (by kernel_rfl) (by kernel_rfl) (by kernel_rfl) (fun _ _ _ h => h) (Or.inl ⟨by rfl, ?_⟩) (by assumption) ?_
  rotate_left
  · (intro w hSw; (try dsimp only at hSw); obtain ⟨x0, x1, d1, zx, zd⟩ := hSw; go_simp) <;> with_reducible rfl
  try simp only [Act.put, List.setIfInBounds_toArray, List.set_cons_zero, List.set_cons_succ]
  refine wpAnyH_take (i := 1) (oi := { dst := some 249, op := Op.move (Operand.tmp 248), type := 4, pos := "law.go:96", after := #[{ on := 0, ground := Ground.data }], guard := none }) (v := ?_) rfl (by kernel_rfl) (by kernel_rfl) (by kernel_rfl) (fun _ _ _ h => h) (Or.inl ⟨by rfl, ?_⟩) (by assumption) ?_
  rotate_left
  · (intro w hSw; (try dsimp only at hSw); obtain ⟨x0, x1, d1, zx, zd⟩ := hSw; go_simp) <;> with_reducible rfl
  try simp only [Act.put, List.setIfInBounds_toArray, List.set_cons_zero, List.set_cons_succ]
  refine wpAnyH_take (i := 2) (oi := { dst := some 250, op := Op.move (Operand.tmp 20), type := 4, pos := "law.go:96", after := #[{ on := 1, ground := Ground.guard }], guard := some (1, true) }) (v := ?_) rfl (by kernel_rfl) (by kernel_rfl) (by kernel_rfl) (fun _ _ _ h => h) (Or.inl ⟨by rfl, ?_⟩) (by assumption) ?_
  rotate_left
  · (intro w hSw; (try dsimp only at hSw); obtain ⟨x0, x1, d1, zx, zd⟩ := hSw; go_simp) <;> with_reducible rfl
  try simp only [Act.put, List.setIfInBounds_toArray, List.set_cons_zero, List.set_cons_succ]
  refine wpAnyH_take (i := 3) (oi := { dst := some 251, op := Op.pick (Operand.tmp 249) (Operand.tmp 250) (Operand.const (Value.bool false)), type := 4, pos := "law.go:96", after := #[{ on := 1, ground := Ground.data }, { on := 2, ground := Ground.data }], guard := none }) (v := ?_) rfl (by kernel_rfl) (by kernel_rfl) (by kernel_rfl) (fun _ _ _ h => h) (Or.inl ⟨by rfl, ?_⟩) (by assumption) ?_
  rotate_left
  · (intro w hSw; (try dsimp only at hSw); obtain ⟨x0, x1, d1, zx, zd⟩ := hSw; go_simp) <;> with_reducible rfl
  try simp only [Act.put, List.setIfInBounds_toArray, List.set_cons_zero, List.set_cons_succ]
  refine wpAnyH_take (i := 4) (oi := { dst := some 252, op := Op.move (Operand.tmp 251), type := 4, pos := "law.go:96", after := #[{ on := 3, ground := Ground.data }, { on := 1, ground := Ground.chain }], guard := none }) (v := ?_) rfl (by kernel_rfl) (by kernel_rfl) (by kernel_rfl) (fun _ _ _ h => h) (Or.inl ⟨by rfl, ?_⟩) (by assumption) ?_
  rotate_left
  · (intro w hSw; (try dsimp only at hSw); obtain ⟨x0, x1, d1, zx, zd⟩ := hSw; go_simp) <;> with_reducible rfl
  try simp only [Act.put, List.setIfInBounds_toArray, List.set_cons_zero, List.set_cons_succ]
  refine wpAnyH_take (i := 5) (oi := { dst := some 253, op := Op.move (Operand.tmp 21), type := 4, pos := "law.go:96", after := #[{ on := 4, ground := Ground.guard }], guard := some (4, true) }) (v := ?_) rfl (by kernel_rfl) (by kernel_rfl) (by kernel_rfl) (fun _ _ _ h => h) (Or.inl ⟨by rfl, ?_⟩) (by assumption) ?_
  rotate_left
  · (intro w hSw; (try dsimp only at hSw); obtain ⟨x0, x1, d1, zx, zd⟩ := hSw; go_simp) <;> with_reducible rfl
  try simp only [Act.put, List.setIfInBounds_toArray, List.set_cons_zero, List.set_cons_succ]
  refine wpAnyH_take (i := 6) (oi := { dst := some 254, op := Op.pick (Operand.tmp 252) (Operand.tmp 253) (Operand.const (Value.bool false)), type := 4, pos := "law.go:96", after := #[{ on := 4, ground := Ground.data }, { on := 5, ground := Ground.data }], guard := none }) (v := ?_) rfl (by kernel_rfl) (by kernel_rfl) (by kernel_rfl) (fun _ _ _ h => h) (Or.inl ⟨by rfl, ?_⟩) (by assumption) ?_
  rotate_left
  · (intro w hSw; (try dsimp only at hSw); obtain ⟨x0, x1, d1, zx, zd⟩ := hSw; go_simp) <;> with_reducible rfl
  try simp only [Act.put, List.setIfInBounds_toArray, List.set_cons_zero, List.set_cons_succ]
  refine wpAnyH_take (i := 7) (oi := { dst := some 255, op := Op.move (Operand.tmp 254), type := 4, pos := "law.go:96", after := #[{ on := 6, ground := Ground.data }, { on := 4, ground := Ground.chain }], guard := none }) (v := ?_) rfl (by kernel_rfl) (by kernel_rfl) (by kernel_rfl) (fun _ _ _ h => h) (Or.inl ⟨by rfl, ?_⟩) (by assumption) ?_
  rotate_left
  · (intro w hSw; (try dsimp only at hSw); obtain ⟨x0, x1, d1, zx, zd⟩ := hSw; go_simp) <;> with_reducible rfl
  try simp only [Act.put, List.setIfInBounds_toArray, List.set_cons_zero, List.set_cons_succ]
  refine wpAnyH_take (i := 8) (oi := { dst := some 256, op := Op.move (Operand.tmp 19), type := 43, pos := "law.go:96", after := #[{ on := 7, ground := Ground.guard }], guard := some (7, true) }) (v := ?_) rfl (by kernel_rfl) (by kernel_rfl) (by kernel_rfl) (fun _ _ _ h => h) (Or.inl ⟨by rfl, ?_⟩) (by assumption) ?_
  rotate_left
  · (intro w hSw; (try dsimp only at hSw); obtain ⟨x0, x1, d1, zx, zd⟩ := hSw; go_simp) <;> with_reducible rfl
  try simp only [Act.put, List.setIfInBounds_toArray, List.set_cons_zero, List.set_cons_succ]
  refine wpAnyH_ready (rs := [9]) (by kernel_rfl) (by simp) ?_
  refine AllReadyH.cons (o := { dst := some 257, op := Op.call { callee := Callee.value (Operand.func 11), args := #[Operand.tmp 256], argTypes := #[43] }, type := 4, pos := "law.go:96", after := #[{ on := 8, ground := Ground.data }, { on := 7, ground := Ground.chain }, { on := 7, ground := Ground.guard }], guard := some (7, true) }) rfl (fun K hK => ?_) AllReadyH.nil
  go_simp
  refine Calls.mono (HAP.out _ rfl) ?_
  rintro _ w9 ⟨rfl, hk9⟩
  have H9 : Hid (Kept W w9 (fun _ => False)) := hk9
  clear hk9 hHeld
  refine hK.out _ _ (HS.out _ H9.out) (fun hHeld => ?_)
  clear hK K
  refine wpAnyH_take (i := 10) (oi := { dst := some 258, op := Op.pick (Operand.tmp 255) (Operand.tmp 257) (Operand.const (Value.bool false)), type := 4, pos := "law.go:96", after := #[{ on := 7, ground := Ground.data }, { on := 9, ground := Ground.data }], guard := none }) (v := ?_) rfl (by kernel_rfl) (by kernel_rfl) (by kernel_rfl) (fun _ _ _ h => h) (Or.inl ⟨by rfl, ?_⟩) (by assumption) ?_
  rotate_left
  · (intro w hSw; (try dsimp only at hSw); obtain ⟨x0, x1, d1, zx, zd⟩ := hSw; go_simp) <;> with_reducible rfl
  try simp only [Act.put, List.setIfInBounds_toArray, List.set_cons_zero, List.set_cons_succ]
  refine wpAnyH_take (i := 11) (oi := { dst := some 259, op := Op.move (Operand.tmp 258), type := 4, pos := "law.go:96", after := #[{ on := 10, ground := Ground.data }, { on := 9, ground := Ground.chain }], guard := none }) (v := ?_) rfl (by kernel_rfl) (by kernel_rfl) (by kernel_rfl) (fun _ _ _ h => h) (Or.inl ⟨by rfl, ?_⟩) (by assumption) ?_
  rotate_left
  · (intro w hSw; (try dsimp only at hSw); obtain ⟨x0, x1, d1, zx, zd⟩ := hSw; go_simp) <;> with_reducible rfl
  try simp only [Act.put, List.setIfInBounds_toArray, List.set_cons_zero, List.set_cons_succ]
  refine wpAnyH_take (i := 12) (oi := { dst := some 260, op := Op.move (Operand.tmp 0), type := 25, pos := "law.go:96", after := #[{ on := 11, ground := Ground.guard }], guard := some (11, true) }) (v := ?_) rfl (by kernel_rfl) (by kernel_rfl) (by kernel_rfl) (fun _ _ _ h => h) (Or.inl ⟨by rfl, ?_⟩) (by assumption) ?_
  rotate_left
  · (intro w hSw; (try dsimp only at hSw); obtain ⟨x0, x1, d1, zx, zd⟩ := hSw; go_simp) <;> with_reducible rfl
  try simp only [Act.put, List.setIfInBounds_toArray, List.set_cons_zero, List.set_cons_succ]
  refine wpAnyH_take (i := 13) (oi := { dst := some 261, op := Op.nilCheck (Operand.tmp 260), type := 0, pos := "law.go:96", after := #[{ on := 12, ground := Ground.data }, { on := 11, ground := Ground.guard }], guard := some (11, true) }) (v := ?_) rfl (by kernel_rfl) (by kernel_rfl) (by kernel_rfl) (fun _ _ _ h => h) (Or.inl ⟨by rfl, ?_⟩) (by assumption) ?_
  rotate_left
  · (intro w hSw; (try dsimp only at hSw); obtain ⟨x0, x1, d1, zx, zd⟩ := hSw; go_simp) <;> with_reducible rfl
  try simp only [Act.put, List.setIfInBounds_toArray, List.set_cons_zero, List.set_cons_succ]
  refine wpAnyH_take (i := 14) (oi := { dst := some 262, op := Op.fieldAddr 37 (Operand.tmp 261) 0, type := 0, pos := "law.go:96", after := #[{ on := 13, ground := Ground.data }, { on := 11, ground := Ground.guard }], guard := some (11, true) }) (v := ?_) rfl (by kernel_rfl) (by kernel_rfl) (by kernel_rfl) (fun _ _ _ h => h) (Or.inl ⟨by rfl, ?_⟩) (by assumption) ?_
  rotate_left
  · (intro w hSw; (try dsimp only at hSw); obtain ⟨x0, x1, d1, zx, zd⟩ := hSw; go_simp) <;> with_reducible rfl
  try simp only [Act.put, List.setIfInBounds_toArray, List.set_cons_zero, List.set_cons_succ]
  refine wpAnyH_take (i := 15) (oi := { dst := some 263, op := Op.load 28 (Operand.tmp 262), type := 28, pos := "law.go:96", after := #[{ on := 14, ground := Ground.data }, { on := 11, ground := Ground.guard }], guard := some (11, true) }) (v := ?_) rfl (by kernel_rfl) (by kernel_rfl) (by kernel_rfl) (fun _ _ _ h => h) (Or.inl ⟨by rfl, ?_⟩) (by assumption) ?_
  rotate_left
  · (intro w hSw; (try dsimp only at hSw); obtain ⟨x0, x1, d1, zx, zd⟩ := hSw; go_simp) <;> with_reducible rfl
  try simp only [Act.put, List.setIfInBounds_toArray, List.set_cons_zero, List.set_cons_succ]
  refine wpAnyH_take (i := 17) (oi := { dst := some 265, op := Op.move (Operand.tmp 0), type := 25, pos := "law.go:96", after := #[{ on := 11, ground := Ground.guard }], guard := some (11, true) }) (v := ?_) rfl (by kernel_rfl) (by kernel_rfl) (by kernel_rfl) (fun _ _ _ h => h) (Or.inl ⟨by rfl, ?_⟩) (by assumption) ?_
  rotate_left
  · (intro w hSw; (try dsimp only at hSw); obtain ⟨x0, x1, d1, zx, zd⟩ := hSw; go_simp) <;> with_reducible rfl
  try simp only [Act.put, List.setIfInBounds_toArray, List.set_cons_zero, List.set_cons_succ]
  refine wpAnyH_take (i := 18) (oi := { dst := some 266, op := Op.nilCheck (Operand.tmp 265), type := 0, pos := "law.go:96", after := #[{ on := 17, ground := Ground.data }, { on := 11, ground := Ground.guard }], guard := some (11, true) }) (v := ?_) rfl (by kernel_rfl) (by kernel_rfl) (by kernel_rfl) (fun _ _ _ h => h) (Or.inl ⟨by rfl, ?_⟩) (by assumption) ?_
  rotate_left
  · (intro w hSw; (try dsimp only at hSw); obtain ⟨x0, x1, d1, zx, zd⟩ := hSw; go_simp) <;> with_reducible rfl
  try simp only [Act.put, List.setIfInBounds_toArray, List.set_cons_zero, List.set_cons_succ]
  refine wpAnyH_take (i := 19) (oi := { dst := some 267, op := Op.fieldAddr 37 (Operand.tmp 266) 1, type := 0, pos := "law.go:96", after := #[{ on := 18, ground := Ground.data }, { on := 11, ground := Ground.guard }], guard := some (11, true) }) (v := ?_) rfl (by kernel_rfl) (by kernel_rfl) (by kernel_rfl) (fun _ _ _ h => h) (Or.inl ⟨by rfl, ?_⟩) (by assumption) ?_
  rotate_left
  · (intro w hSw; (try dsimp only at hSw); obtain ⟨x0, x1, d1, zx, zd⟩ := hSw; go_simp) <;> with_reducible rfl
  try simp only [Act.put, List.setIfInBounds_toArray, List.set_cons_zero, List.set_cons_succ]
  refine wpAnyH_take (i := 20) (oi := { dst := some 268, op := Op.load 32 (Operand.tmp 267), type := 32, pos := "law.go:96", after := #[{ on := 19, ground := Ground.data }, { on := 11, ground := Ground.guard }], guard := some (11, true) }) (v := ?_) rfl (by kernel_rfl) (by kernel_rfl) (by kernel_rfl) (fun _ _ _ h => h) (Or.inl ⟨by rfl, ?_⟩) (by assumption) ?_
  rotate_left
  · (intro w hSw; (try dsimp only at hSw); obtain ⟨x0, x1, d1, zx, zd⟩ := hSw; go_simp) <;> with_reducible rfl
  try simp only [Act.put, List.setIfInBounds_toArray, List.set_cons_zero, List.set_cons_succ]
  refine wpAnyH_take (i := 21) (oi := { dst := some 269, op := Op.nilCheck (Operand.tmp 268), type := 0, pos := "law.go:96", after := #[{ on := 20, ground := Ground.data }, { on := 11, ground := Ground.guard }], guard := some (11, true) }) (v := ?_) rfl (by kernel_rfl) (by kernel_rfl) (by kernel_rfl) (fun _ _ _ h => h) (Or.inl ⟨by rfl, ?_⟩) (by assumption) ?_
  rotate_left
  · (intro w hSw; (try dsimp only at hSw); obtain ⟨x0, x1, d1, zx, zd⟩ := hSw; go_simp) <;> with_reducible rfl
  try simp only [Act.put, List.setIfInBounds_toArray, List.set_cons_zero, List.set_cons_succ]
  refine wpAnyH_take (i := 22) (oi := { dst := some 270, op := Op.fieldAddr 80 (Operand.tmp 269) 1, type := 0, pos := "law.go:96", after := #[{ on := 21, ground := Ground.data }, { on := 11, ground := Ground.guard }], guard := some (11, true) }) (v := ?_) rfl (by kernel_rfl) (by kernel_rfl) (by kernel_rfl) (fun _ _ _ h => h) (Or.inl ⟨by rfl, ?_⟩) (by assumption) ?_
  rotate_left
  · (intro w hSw; (try dsimp only at hSw); obtain ⟨x0, x1, d1, zx, zd⟩ := hSw; go_simp) <;> with_reducible rfl
  try simp only [Act.put, List.setIfInBounds_toArray, List.set_cons_zero, List.set_cons_succ]
  refine wpAnyH_take (i := 23) (oi := { dst := some 271, op := Op.load 35 (Operand.tmp 270), type := 35, pos := "law.go:96", after := #[{ on := 22, ground := Ground.data }, { on := 11, ground := Ground.guard }], guard := some (11, true) }) (v := ?_) rfl (by kernel_rfl) (by kernel_rfl) (by kernel_rfl) (fun _ _ _ h => h) (Or.inl ⟨by rfl, ?_⟩) (by assumption) ?_
  rotate_left
  · (intro w hSw; (try dsimp only at hSw); obtain ⟨x0, x1, d1, zx, zd⟩ := hSw; go_simp) <;> with_reducible rfl
  try simp only [Act.put, List.setIfInBounds_toArray, List.set_cons_zero, List.set_cons_succ]
  refine wpAnyH_take (i := 24) (oi := { dst := some 272, op := Op.call { callee := Callee.builtin Builtin.len, args := #[Operand.tmp 271], argTypes := #[35] }, type := 3, pos := "law.go:96", after := #[{ on := 23, ground := Ground.data }, { on := 11, ground := Ground.guard }], guard := some (11, true) }) (v := ?_) rfl (by kernel_rfl) (by kernel_rfl) (by kernel_rfl) (fun _ _ _ h => h) (Or.inl ⟨by rfl, ?_⟩) (by assumption) ?_
  rotate_left
  · (intro w hSw; (try dsimp only at hSw); obtain ⟨x0, x1, d1, zx, zd⟩ := hSw; go_simp) <;> with_reducible rfl
  try simp only [Act.put, List.setIfInBounds_toArray, List.set_cons_zero, List.set_cons_succ]
  refine wpAnyH_ready (rs := [16]) (by kernel_rfl) (by simp) ?_
  refine AllReadyH.cons (o := { dst := some 264, op := Op.call { callee := Callee.value (Operand.func 15), args := #[Operand.tmp 263], argTypes := #[28] }, type := 3, pos := "law.go:96", after := #[{ on := 15, ground := Ground.data }, { on := 11, ground := Ground.chain }, { on := 11, ground := Ground.guard }], guard := some (11, true) }) rfl (fun K hK => ?_) AllReadyH.nil
  go_simp
  refine Calls.mono (len_anyL (HQ.out _ H9.out).nt) ?_
  rintro _ w10 ⟨rfl, rfl⟩
  refine hK.out _ _ hHeld (fun hHeld => ?_)
  clear hK K
  refine wpAnyH_take (i := 25) (oi := { dst := some 273, op := Op.binOp BinOp.eql 3 (Operand.tmp 264) (Operand.tmp 272) 3, type := 4, pos := "law.go:96", after := #[{ on := 16, ground := Ground.data }, { on := 24, ground := Ground.data }, { on := 11, ground := Ground.guard }], guard := some (11, true) }) (v := ?_) rfl (by kernel_rfl) (by kernel_rfl) (by kernel_rfl) (fun _ _ _ h => h) (Or.inl ⟨by rfl, ?_⟩) (by assumption) ?_
  rotate_left
  · (intro w hSw; (try dsimp only at hSw); obtain ⟨x0, x1, d1, zx, zd⟩ := hSw; go_simp) <;> with_reducible rfl
  try simp only [Act.put, List.setIfInBounds_toArray, List.set_cons_zero, List.set_cons_succ]
  refine wpAnyH_take (i := 26) (oi := { dst := some 274, op := Op.pick (Operand.tmp 259) (Operand.tmp 273) (Operand.const (Value.bool false)), type := 4, pos := "law.go:96", after := #[{ on := 11, ground := Ground.data }, { on := 25, ground := Ground.data }], guard := none }) (v := ?_) rfl (by kernel_rfl) (by kernel_rfl) (by kernel_rfl) (fun _ _ _ h => h) (Or.inl ⟨by rfl, ?_⟩) (by assumption) ?_
  rotate_left
  · (intro w hSw; (try dsimp only at hSw); obtain ⟨x0, x1, d1, zx, zd⟩ := hSw; go_simp) <;> with_reducible rfl
  try simp only [Act.put, List.setIfInBounds_toArray, List.set_cons_zero, List.set_cons_succ]
  refine wpAnyH_take (i := 27) (oi := { dst := some 4, op := Op.assign (Operand.tmp 274), type := 4, pos := "law.go:96", after := #[{ on := 26, ground := Ground.data }, { on := 16, ground := Ground.chain }, { on := 0, ground := Ground.phase }, { on := 1, ground := Ground.phase }, { on := 2, ground := Ground.phase }, { on := 3, ground := Ground.phase }, { on := 4, ground := Ground.phase }, { on := 5, ground := Ground.phase }, { on := 6, ground := Ground.phase }, { on := 7, ground := Ground.phase }, { on := 8, ground := Ground.phase }, { on := 9, ground := Ground.phase }, { on := 10, ground := Ground.phase }, { on := 11, ground := Ground.phase }, { on := 12, ground := Ground.phase }, { on := 13, ground := Ground.phase }, { on := 14, ground := Ground.phase }, { on := 15, ground := Ground.phase }, { on := 16, ground := Ground.phase }, { on := 17, ground := Ground.phase }, { on := 18, ground := Ground.phase }, { on := 19, ground := Ground.phase }, { on := 20, ground := Ground.phase }, { on := 21, ground := Ground.phase }, { on := 22, ground := Ground.phase }, { on := 23, ground := Ground.phase }, { on := 24, ground := Ground.phase }, { on := 25, ground := Ground.phase }, { on := 26, ground := Ground.phase }], guard := none }) (v := ?_) rfl (by kernel_rfl) (by kernel_rfl) (by kernel_rfl) (fun _ _ _ h => h) (Or.inl ⟨by rfl, ?_⟩) (by assumption) ?_
  rotate_left
  · (intro w hSw; (try dsimp only at hSw); obtain ⟨x0, x1, d1, zx, zd⟩ := hSw; go_simp) <;> with_reducible rfl
  try simp only [Act.put, List.setIfInBounds_toArray, List.set_cons_zero, List.set_cons_succ]
  refine wpAnyH_done (by kernel_rfl) ?_ _
  clear hHeld
  go_wp2
  go_ret
  exact ⟨rfl, H9.out⟩
end
end Go.Proofs.YtghngopclhhoeaaDoor
