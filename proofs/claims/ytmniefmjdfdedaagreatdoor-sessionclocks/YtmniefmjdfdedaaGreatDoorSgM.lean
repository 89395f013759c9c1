/- does of the law at what is told. -/
import Derived.Test.YtmniefmjdfdedaaGreatDoorSgJ
import Derived.Test.YtmniefmjdfdedaaGreatDoorSgH
namespace Go.Proofs.YtmniefmjdfdedaaGreatDoor
open Go.RowKit Go.Shelf
set_option maxRecDepth 8000
set_option linter.unusedSimpArgs false
set_option linter.unusedVariables false

theorem apart1 (r : Rw) : ApartR [r] := by
  intro i j hi hj hne
  simp at hi hj
  omega
theorem apart2 {r s : Rw} (h : ∀ g, r.v.ownBlock = some g → s.v.ownBlock ≠ some g) : ApartR [r, s] := by
  intro i j hi hj hne g e
  match i, j, hi, hj with
  | 0, 0, _, _ => exact absurd rfl hne
  | 0, 1, _, _ => exact h g e
  | 1, 0, _, _ => exact fun q => h g q e
  | 1, 1, _, _ => exact absurd rfl hne
theorem blk1 {r : Rw} {k : Nat} (h : BlkR [r] k) : r.v.ownBlock = some k := by
  obtain ⟨j, hj, e⟩ := h
  have : j = 0 := by simp at hj; omega
  subst this
  exact e
theorem blk2 {r s : Rw} {k : Nat} (h : BlkR [r, s] k) : r.v.ownBlock = some k ∨ s.v.ownBlock = some k := by
  obtain ⟨j, hj, e⟩ := h
  match j, hj with
  | 0, _ => exact .inl e
  | 1, _ => exact .inr e
section
variable {w W : World} {own : Nat → Nat} {p : Nat} {R : WoR} {T : Int}
set_option maxHeartbeats 8000000 in
theorem does_tell (hp : p ≠ 7) (h : Wo w W own p R) (f : Fit R T) (on id tm n : Int) :
    Calls Tryz.prog 7 #[.pointer (some ⟨R.x, 0, none⟩), .agg #[.int .i64 6, .int .i64 on, .int .i64 id, .int .i32 tm, .int .i64 n]] W fun e w' => e = .returned (.bool true) ∧ Hid (DoTo w W w' own p R T) := by
  obtain ⟨bx, hbx⟩ : ∃ b, b = W.heap.size := ⟨_, rfl⟩
  obtain ⟨W0, hW0⟩ : ∃ W0, W0 = W.alloc (.cells #[.int .i64 6, .int .i64 on, .int .i64 id, .int .i32 tm, .int .i64 n] 38) := ⟨_, rfl⟩
  have hb0 : Below W.heap.size W W0 := by rw [hW0]; exact (Below.refl _ W).alloc (Nat.le_refl _) _
  have k0 : W0.cell? ⟨bx, 0, none⟩ = some (.int .i64 6) := by rw [hbx, hW0, cell_of_row _ _ 0 _ _ _ (heap_alloc_new _ _)]; rfl
  have H0 : Hid (Wo w W0 (bxO own W.heap.size) p R) := h.box hp hb0
  have zb : bx < W0.heap.size := World.block_lt_of_cell? W0 _ k0
  have HOut : Hid (∀ w', DoTo w W0 w' (bxO own W.heap.size) p R T → DoTo w W w' own p R T) := fun w' q => q.out hb0
  have HF : Hid (Fit R T) := f
  have HTN : Hid (R.t = R.now) := f.tn
  have hall : allL R.l = R.dl.map ssD := mate_all f.mt
  have HLn : Hid ((R.dl.map ssD).length ≤ 64) := by show _ ≤ _; rw [List.length_map]; exact f.ln
  have HAl : Hid (∀ V, Wo w V (bxO own W.heap.size) p R → Calls Tryz.prog 23 #[.pointer (some ⟨R.c, 0, none⟩)] V fun e w' => ∃ u, e = .returned u ∧ OS w' V.heap.size u (R.dl.map ssD) ∧ Below V.heap.size V w') := fun V hV => by
    rw [← hall]
    exact all_any hV.ck f.mt.nd (by have := f.lw; omega)
  have HW0 : Hid (W.alloc (.cells #[.int .i64 6, .int .i64 on, .int .i64 id, .int .i32 tm, .int .i64 n] 38) = W0) := hW0.symm
  have HBx : Hid (W.heap.size = bx) := hbx.symm
  clear h hb0 hW0 hbx f hall
  generalize bxO own W.heap.size = own1 at *
  obtain ⟨L, hL⟩ : ∃ L, L = R.dl.map ssD := ⟨_, rfl⟩
  have HL : Hid (L = R.dl.map ssD) := hL
  rw [← hL] at HAl HLn
  clear hL
  go_enter Tryz.func7, Tryz.ntmps7
  go_upto_region 1 with fail
  rw [HW0.out, HBx.out]
  clear HW0 HBx
  have cx := H0.out.cx
  obtain ⟨cx0, cx1⟩ := cx
  have zx : R.x < W0.heap.size := H0.out.lt (.inl rfl)
  have HA := HAl.out W0 H0.out
  go_wp2_with fail
  refine Calls.mono HA ?_
  rintro e w1 ⟨a, rfl, ha1, hb1⟩
  obtain ⟨aa, ac, rfl⟩ := rowS ha1
  have H1 : Hid (Wo w w1 own1 p R ∧ OS w1 W0.heap.size (.slice aa L.length ac) L ∧ Below W0.heap.size W0 w1) := ⟨H0.out.belowO hb1, ha1, hb1⟩
  have SZ01 : Hid (W0.heap.size ≤ w1.heap.size) := hb1.size
  clear ha1 hb1 HA cx0 cx1 zx k0 zb
  have cx0 := H1.out.1.cx.1
  have zx : R.x < w1.heap.size := H1.out.1.lt (.inl rfl)
  have HA := HAl.out w1 H1.out.1
  go_wp2_with fail
  refine Calls.mono HA ?_
  rintro e w2 ⟨b, rfl, hb2o, hb2⟩
  obtain ⟨ba, bc, rfl⟩ := rowS hb2o
  have HBl2 : Hid (Below W0.heap.size W0 w2) := H1.out.2.2.trans (hb2.mono H1.out.2.2.size)
  have H2 : Hid (Wo w w2 own1 p R ∧ OS w2 W0.heap.size (.slice aa L.length ac) L ∧ OS w2 w1.heap.size (.slice ba L.length bc) L ∧ (∀ g, (Value.slice aa L.length ac).ownBlock = some g → g < w1.heap.size) ∧ w1.heap.size ≤ w2.heap.size) :=
    ⟨H0.out.belowO HBl2.out, rowK H1.out.2.1 (kept_of_belowS hb2 : Kept w1 w2 (fun _ => False)) (fun _ _ e => e), hb2o, fun g e => (H1.out.2.1.lt g e).2, hb2.size⟩
  clear hb2o hb2 HA HAl cx0 zx H1
  have cx1 := H2.out.1.cx.2
  have zx : R.x < w2.heap.size := H2.out.1.lt (.inl rfl)
  have zd : R.d < w2.heap.size := lt_of_block H2.out.1.dc.row
  have c2 := H2.out.1.dc.c2
  obtain ⟨sa, sc, hsv⟩ := H2.out.1.dc.sv
  rw [hsv] at c2
  have HSv : Hid (R.sv = .slice sa R.dl.length sc) := hsv
  have HQ1 : Hid (Calls Tryz.prog 24 #[.slice aa L.length ac, .slice sa R.dl.length sc] w2 fun e w' => e = .returned (.bool true) ∧ Hid (Kept w2 w' (fun _ => False))) := by
    have h1 := H2.out.1.dc.so
    rw [hsv, ← HL.out] at h1
    exact eqSessions_any H2.out.2.1 h1 (by have := HLn.out; omega)
  clear hsv
  go_wp2_with fail
  refine Calls.mono HQ1.out ?_
  rintro e w3 ⟨rfl, hk3⟩
  obtain ⟨g, hg⟩ : ∃ g, g = w3.heap.size := ⟨_, rfl⟩
  obtain ⟨W3, hW3⟩ : ∃ W3, W3 = w3.alloc (.cells #[nilB, nilB, nilB, nilB, nilB, nilB, nilB, nilB, nilB, nilB, nilB, nilB, nilB, nilB, nilB, nilB, nilB, nilB, nilB, nilB, nilB] 83) := ⟨_, rfl⟩
  have hk3' : Kept w2 W3 (fun _ => False) := by rw [hW3]; exact hk3.out.alloc _
  have HBl3 : Hid (Below W0.heap.size W0 W3) := HBl2.out.trans (hk3'.below HBl2.out.size (fun _ e => e.elim))
  have hrow3 : W3.heap[g]? = some (.cells #[nilB, nilB, nilB, nilB, nilB, nilB, nilB, nilB, nilB, nilB, nilB, nilB, nilB, nilB, nilB, nilB, nilB, nilB, nilB, nilB, nilB] 83 (0, 0)) := by rw [hg, hW3]; exact heap_alloc_new _ _
  have hlo3 : W0.heap.size ≤ W3.heap.size := HBl3.out.size
  have hg2 : w2.heap.size ≤ g := by rw [hg]; exact hk3.out.size
  have H3 : Hid (OS W3 W0.heap.size (.slice aa L.length ac) L ∧ OS W3 w1.heap.size (.slice ba L.length bc) L ∧ BagSe W3 g nilB [] W0.heap.size ∧ w2.heap.size ≤ g ∧ (∀ k, (Value.slice ba L.length bc).ownBlock = some k → k < w2.heap.size) ∧ W0.heap.size ≤ w2.heap.size) :=
    ⟨rowK H2.out.2.1 hk3' (fun _ _ e => e), rowK H2.out.2.2.1 hk3' (fun _ _ e => e), ⟨hrow3, World.ownsRow_nil _ _ _ _⟩, hg2, fun k e => (H2.out.2.2.1.lt k e).2, HBl2.out.size⟩
  have HAd := addSessions_any g nilB [] W0.heap.size aa L.length ac W3 H3.out.2.2.1 (by simp) hlo3
  have HW3 : Hid (w3.alloc (.cells #[nilB, nilB, nilB, nilB, nilB, nilB, nilB, nilB, nilB, nilB, nilB, nilB, nilB, nilB, nilB, nilB, nilB, nilB, nilB, nilB, nilB] 83) = W3) := hW3.symm
  have HG : Hid (w3.heap.size = g) := hg.symm
  clear hg hW3 hk3 hk3' hrow3 hlo3 hg2 HQ1 cx1 zx zd c2
  go_upto_region 28 with fail
  rw [HW3.out, HG.out]
  clear HW3 HG
  go_wp2_with fail
  refine Calls.mono HAd ?_
  rintro e w4 ⟨rfl, v4, hbag4, hk4, hn4⟩
  simp only [List.nil_append] at hbag4
  have hS4 : ∀ k, (k = g ∨ nilB.ownBlock = some k) → w2.heap.size ≤ k := fun k q => by
    rcases q with q | q
    · have := H3.out.2.2.2.1; omega
    · simp [nilB, Value.ownBlock] at q
  have ha4 : OS w4 W0.heap.size (.slice aa L.length ac) L := rowK H3.out.1 hk4 (fun k e q => by have := hS4 k q; have := H2.out.2.2.2.1 k e; have := H2.out.2.2.2.2; omega)
  have hb4 : OS w4 w1.heap.size (.slice ba L.length bc) L := rowK H3.out.2.1 hk4 (fun k e q => by have := hS4 k q; have := H3.out.2.2.2.2.1 k e; omega)
  have hbl4 : Below W0.heap.size W0 w4 := HBl3.out.trans (hk4.below HBl3.out.size (fun k q => by have := hS4 k q; have := H3.out.2.2.2.2.2; omega))
  have H4 : Hid (OS w4 W0.heap.size (.slice aa L.length ac) L ∧ OS w4 w1.heap.size (.slice ba L.length bc) L ∧ BagSe w4 g v4 [.slice aa L.length ac] W0.heap.size ∧ Below W0.heap.size W0 w4) := ⟨ha4, hb4, hbag4, hbl4⟩
  have HAp := bagApart_se g W0.heap.size v4 [⟨.slice aa L.length ac, L.length⟩] (fun _ => L.flatMap ssL) w4 hbag4 (fun j hj => by
    have : j = 0 := by simp at hj; omega
    subst this
    exact rowLow ha4 (Nat.zero_le _)) (apart1 _) (by simp) (fun j hj => by
    have : j = 0 := by simp at hj; omega
    subst this
    have := HLn.out
    show L.length ≤ _
    omega)
  clear ha4 hb4 hbl4 hbag4 hk4 hn4 hS4 HAd
  go_wp2_with fail
  refine Calls.mono HAp ?_
  rintro e w5 ⟨rfl, hk5, hX5⟩
  have hbl5 : Below W0.heap.size W0 w5 := H4.out.2.2.2.trans (hk5.below H4.out.2.2.2.size (fun k q => (H4.out.1.lt k (blk1 q)).1))
  have hb5 : OS w5 w1.heap.size (.slice ba L.length bc) L := rowK H4.out.2.1 hk5 (fun k e q => by have := (H4.out.2.1.lt k e).1; have := H2.out.2.2.2.1 k (blk1 q); omega)
  have hrow5 := hk5.heap H4.out.2.2.1.row (fun q => rowNe H4.out.1 H4.out.2.2.1.row (by decide) (blk1 q))
  have hts5 := rowK H4.out.2.2.1.ts hk5 (fun k e q => by
    obtain ⟨c', e'⟩ := rowT H4.out.1 (blk1 q)
    exact rowNe H4.out.2.2.1.ts e' (by decide) e)
  have hw5 := H0.out.belowO hbl5
  have H5 : Hid (Wo w w5 own1 p R ∧ Below W0.heap.size W0 w5 ∧ OS w5 w1.heap.size (.slice ba L.length bc) L ∧ BagSe w5 g v4 [.slice aa L.length ac] W0.heap.size ∧ (∃ Xs, RowsR w5 93 2 [⟨.slice aa L.length ac, L.length⟩] Xs)) := ⟨hw5, hbl5, hb5, ⟨hrow5, hts5⟩, hX5⟩
  have cx1 := hw5.cx.2
  have zx : R.x < w5.heap.size := hw5.lt (.inl rfl)
  have zd : R.d < w5.heap.size := lt_of_block hw5.dc.row
  have c2 := hw5.dc.c2
  rw [HSv.out] at c2
  have HQ1 : Hid (Calls Tryz.prog 24 #[.slice ba L.length bc, .slice sa R.dl.length sc] w5 fun e w' => e = .returned (.bool true) ∧ Hid (Kept w5 w' (fun _ => False))) := by
    have h1 := hw5.dc.so
    rw [HSv.out, ← HL.out] at h1
    exact eqSessions_any hb5 h1 (by have := HLn.out; omega)
  clear hk5 hX5 hbl5 hb5 hrow5 hts5 hw5 HAp
  go_wp2_with fail
  refine Calls.mono HQ1.out ?_
  rintro e w6 ⟨rfl, hk6⟩
  have hbl6 : Below W0.heap.size W0 w6 := H5.out.2.1.trans (hk6.out.below H5.out.2.1.size (fun _ e => e.elim))
  have hbag6 : BagSe w6 g v4 [.slice aa L.length ac] W0.heap.size := ⟨hk6.out.heap H5.out.2.2.2.1.row (fun e => e), rowK H5.out.2.2.2.1.ts hk6.out (fun _ _ e => e)⟩
  obtain ⟨Xs, hXs⟩ := H5.out.2.2.2.2
  have ha6 : w6.ownsRow 0 93 2 (.slice aa L.length ac) L.length (Xs 0) := rowK (hXs 0 (by simp)) hk6.out (fun _ _ e => e)
  have hb6 : OS w6 w1.heap.size (.slice ba L.length bc) L := rowK H5.out.2.2.1 hk6.out (fun _ _ e => e)
  have H6 : Hid (Below W0.heap.size W0 w6 ∧ BagSe w6 g v4 [.slice aa L.length ac] W0.heap.size ∧ w6.ownsRow 0 93 2 (.slice aa L.length ac) L.length (Xs 0) ∧ OS w6 w1.heap.size (.slice ba L.length bc) L) := ⟨hbl6, hbag6, ha6, hb6⟩
  have HAd := addSessions_any g v4 [.slice aa L.length ac] W0.heap.size ba L.length bc w6 hbag6 (by simp) hbl6.size
  clear hk6 hbl6 hbag6 hXs ha6 hb6 HQ1 cx1 zx zd c2 H5
  go_wp2_with fail
  refine Calls.mono HAd ?_
  rintro e w7 ⟨rfl, v7, hbag7, hk7, hn7⟩
  simp only [List.cons_append, List.nil_append] at hbag7
  have hnot : ∀ {B n : Nat} {v : Value} {xs : List Value}, w6.ownsRow B 93 2 v n xs → ∀ k, v.ownBlock = some k → ¬ (k = g ∨ v4.ownBlock = some k) := fun hr k e q => by
    rcases q with q | q
    · subst q; exact rowNe hr H6.out.2.1.row (by decide) e
    · obtain ⟨c', e'⟩ := rowT H6.out.2.1.ts q
      exact rowNe hr e' (by decide) e
  have ha7 := rowK H6.out.2.2.1 hk7 (hnot H6.out.2.2.1)
  have hb7 := rowK H6.out.2.2.2 hk7 (hnot H6.out.2.2.2)
  have hbl7 : Below W0.heap.size W0 w7 := H6.out.1.trans (hk7.below H6.out.1.size (fun k q => by
    rcases q with q | q
    · have := H3.out.2.2.2.1; have := H3.out.2.2.2.2.2; omega
    · exact (H6.out.2.1.ts.lt k q).1))
  have hlo7 : ∀ k, BlkR [⟨.slice aa L.length ac, L.length⟩, ⟨.slice ba L.length bc, L.length⟩] k → W0.heap.size ≤ k := fun k q => by
    rcases blk2 q with q | q
    · exact (H4.out.1.lt k q).1
    · have := (H6.out.2.2.2.lt k q).1; have := H4.out.2.1; have h8 := H2.out.2.1; have : W0.heap.size ≤ w1.heap.size := SZ01.out; omega
  have HA2 : Hid (Calls Tryz.prog 26 #[.pointer (some ⟨g, 0, none⟩)] w7.drew fun e w' => e = .returned (.bool true) ∧ Kept w7.drew w' (BlkR [⟨.slice aa L.length ac, L.length⟩, ⟨.slice ba L.length bc, L.length⟩]) ∧ ∃ Xs, RowsR w' 93 2 [⟨.slice aa L.length ac, L.length⟩, ⟨.slice ba L.length bc, L.length⟩] Xs) := by
    refine bagApart_se g W0.heap.size v7 [⟨.slice aa L.length ac, L.length⟩, ⟨.slice ba L.length bc, L.length⟩] (fun j => if j = 0 then Xs 0 else L.flatMap ssL) w7.drew ⟨hbag7.row, hbag7.ts⟩ (fun j hj => ?_) (apart2 fun g e q => ?_) (by simp) (fun j hj => ?_)
    · match j, hj with
      | 0, _ => exact ha7
      | 1, _ => exact rowLow hb7 (Nat.zero_le _)
    · have := H2.out.2.2.2.1 g e
      have := (H6.out.2.2.2.lt g q).1
      omega
    · have := HLn.out
      match j, hj with
      | 0, _ => show L.length ≤ _; omega
      | 1, _ => show L.length ≤ _; omega
  have hw7 := H0.out.belowO hbl7
  have H7 : Hid (Wo w w7 own1 p R ∧ Below W0.heap.size W0 w7 ∧ (∀ k, BlkR [⟨.slice aa L.length ac, L.length⟩, ⟨.slice ba L.length bc, L.length⟩] k → W0.heap.size ≤ k)) := ⟨hw7, hbl7, hlo7⟩
  have g7 : w7.cell? ⟨R.x, 0, none⟩ = some (.pointer (some ⟨R.c, 0, none⟩)) ∧ w7.cell? ⟨R.x, 1, none⟩ = some (.pointer (some ⟨R.d, 0, none⟩)) ∧ w7.cell? ⟨R.d, 0, none⟩ = some (.int .i64 R.now) := ⟨hw7.cx.1, hw7.cx.2, hw7.dc.c0⟩
  have zx : R.x < w7.heap.size := hw7.lt (.inl rfl)
  have zd : R.d < w7.heap.size := lt_of_block hw7.dc.row
  clear hbag7 hk7 hn7 hnot ha7 hb7 hbl7 hlo7 hw7 HAd H6 H4 H3 H2
  go_wp2_with fail
  refine wp_region_held_drew (S := (fun V => V.cell? ⟨R.x, 0, none⟩ = some (.pointer (some ⟨R.c, 0, none⟩)) ∧ V.cell? ⟨R.x, 1, none⟩ = some (.pointer (some ⟨R.d, 0, none⟩)) ∧ V.cell? ⟨R.d, 0, none⟩ = some (.int .i64 R.now))) (by kernel_rfl) ?_ (fun hHeld => ?_)
  · exact g7
  refine wpAnyH_take (i := 0) (oi := { dst := some 199, op := Op.move (Operand.tmp 14), type := 4, pos := "law.go:106", after := #[], guard := none }) (v := ?_) rfl (by kernel_rfl) (by kernel_rfl) (by kernel_rfl) (fun _ _ _ h => h) (Or.inl ⟨by rfl, ?_⟩) (by assumption) ?_
  rotate_left
  · (intro w hSw; (try dsimp only at hSw); go_simp) <;> with_reducible rfl
  try simp only [Act.put, List.setIfInBounds_toArray, List.set_cons_zero, List.set_cons_succ]
  refine wpAnyH_take (i := 1) (oi := { dst := some 200, op := Op.move (Operand.tmp 199), type := 4, pos := "law.go:106", after := #[{ on := 0, ground := Ground.data }], guard := none }) (v := ?_) rfl (by kernel_rfl) (by kernel_rfl) (by kernel_rfl) (fun _ _ _ h => h) (Or.inl ⟨by rfl, ?_⟩) (by assumption) ?_
  rotate_left
  · (intro w hSw; (try dsimp only at hSw); go_simp) <;> with_reducible rfl
  try simp only [Act.put, List.setIfInBounds_toArray, List.set_cons_zero, List.set_cons_succ]
  refine wpAnyH_take (i := 2) (oi := { dst := some 201, op := Op.move (Operand.tmp 16), type := 4, pos := "law.go:106", after := #[{ on := 1, ground := Ground.guard }], guard := some (1, true) }) (v := ?_) rfl (by kernel_rfl) (by kernel_rfl) (by kernel_rfl) (fun _ _ _ h => h) (Or.inl ⟨by rfl, ?_⟩) (by assumption) ?_
  rotate_left
  · (intro w hSw; (try dsimp only at hSw); go_simp) <;> with_reducible rfl
  try simp only [Act.put, List.setIfInBounds_toArray, List.set_cons_zero, List.set_cons_succ]
  refine wpAnyH_take (i := 3) (oi := { dst := some 202, op := Op.pick (Operand.tmp 200) (Operand.tmp 201) (Operand.const (Value.bool false)), type := 4, pos := "law.go:106", after := #[{ on := 1, ground := Ground.data }, { on := 2, ground := Ground.data }], guard := none }) (v := ?_) rfl (by kernel_rfl) (by kernel_rfl) (by kernel_rfl) (fun _ _ _ h => h) (Or.inl ⟨by rfl, ?_⟩) (by assumption) ?_
  rotate_left
  · (intro w hSw; (try dsimp only at hSw); go_simp) <;> with_reducible rfl
  try simp only [Act.put, List.setIfInBounds_toArray, List.set_cons_zero, List.set_cons_succ]
  refine wpAnyH_take (i := 4) (oi := { dst := some 203, op := Op.move (Operand.tmp 202), type := 4, pos := "law.go:106", after := #[{ on := 3, ground := Ground.data }, { on := 1, ground := Ground.chain }], guard := none }) (v := ?_) rfl (by kernel_rfl) (by kernel_rfl) (by kernel_rfl) (fun _ _ _ h => h) (Or.inl ⟨by rfl, ?_⟩) (by assumption) ?_
  rotate_left
  · (intro w hSw; (try dsimp only at hSw); go_simp) <;> with_reducible rfl
  try simp only [Act.put, List.setIfInBounds_toArray, List.set_cons_zero, List.set_cons_succ]
  refine wpAnyH_take (i := 5) (oi := { dst := some 204, op := Op.move (Operand.tmp 17), type := 4, pos := "law.go:106", after := #[{ on := 4, ground := Ground.guard }], guard := some (4, true) }) (v := ?_) rfl (by kernel_rfl) (by kernel_rfl) (by kernel_rfl) (fun _ _ _ h => h) (Or.inl ⟨by rfl, ?_⟩) (by assumption) ?_
  rotate_left
  · (intro w hSw; (try dsimp only at hSw); go_simp) <;> with_reducible rfl
  try simp only [Act.put, List.setIfInBounds_toArray, List.set_cons_zero, List.set_cons_succ]
  refine wpAnyH_take (i := 6) (oi := { dst := some 205, op := Op.pick (Operand.tmp 203) (Operand.tmp 204) (Operand.const (Value.bool false)), type := 4, pos := "law.go:106", after := #[{ on := 4, ground := Ground.data }, { on := 5, ground := Ground.data }], guard := none }) (v := ?_) rfl (by kernel_rfl) (by kernel_rfl) (by kernel_rfl) (fun _ _ _ h => h) (Or.inl ⟨by rfl, ?_⟩) (by assumption) ?_
  rotate_left
  · (intro w hSw; (try dsimp only at hSw); go_simp) <;> with_reducible rfl
  try simp only [Act.put, List.setIfInBounds_toArray, List.set_cons_zero, List.set_cons_succ]
  refine wpAnyH_take (i := 7) (oi := { dst := some 206, op := Op.move (Operand.tmp 205), type := 4, pos := "law.go:106", after := #[{ on := 6, ground := Ground.data }, { on := 4, ground := Ground.chain }], guard := none }) (v := ?_) rfl (by kernel_rfl) (by kernel_rfl) (by kernel_rfl) (fun _ _ _ h => h) (Or.inl ⟨by rfl, ?_⟩) (by assumption) ?_
  rotate_left
  · (intro w hSw; (try dsimp only at hSw); go_simp) <;> with_reducible rfl
  try simp only [Act.put, List.setIfInBounds_toArray, List.set_cons_zero, List.set_cons_succ]
  refine wpAnyH_take (i := 8) (oi := { dst := some 207, op := Op.move (Operand.tmp 15), type := 60, pos := "law.go:106", after := #[{ on := 7, ground := Ground.guard }], guard := some (7, true) }) (v := ?_) rfl (by kernel_rfl) (by kernel_rfl) (by kernel_rfl) (fun _ _ _ h => h) (Or.inl ⟨by rfl, ?_⟩) (by assumption) ?_
  rotate_left
  · (intro w hSw; (try dsimp only at hSw); go_simp) <;> with_reducible rfl
  try simp only [Act.put, List.setIfInBounds_toArray, List.set_cons_zero, List.set_cons_succ]
  refine wpAnyH_ready (rs := [9]) (by kernel_rfl) (by simp) ?_
  refine AllReadyH.cons (o := { dst := some 208, op := Op.call { callee := Callee.value (Operand.func 26), args := #[Operand.tmp 207], argTypes := #[60] }, type := 4, pos := "law.go:106", after := #[{ on := 8, ground := Ground.data }, { on := 7, ground := Ground.chain }, { on := 7, ground := Ground.guard }], guard := some (7, true) }) rfl (fun K hK => ?_) AllReadyH.nil
  go_simp
  refine Calls.mono HA2.out ?_
  rintro y w8 ⟨rfl, hk8, _⟩
  have hb8 : Below W0.heap.size W0 w8 := H7.out.2.1.trans (hk8.of_drew.below H7.out.2.1.size H7.out.2.2)
  have H8 : Hid (Wo w w8 own1 p R ∧ Below W0.heap.size W0 w8) := ⟨H0.out.belowO hb8, hb8⟩
  have g8 : w8.cell? ⟨R.x, 0, none⟩ = some (.pointer (some ⟨R.c, 0, none⟩)) ∧ w8.cell? ⟨R.x, 1, none⟩ = some (.pointer (some ⟨R.d, 0, none⟩)) ∧ w8.cell? ⟨R.d, 0, none⟩ = some (.int .i64 R.now) := ⟨H8.out.1.cx.1, H8.out.1.cx.2, H8.out.1.dc.c0⟩
  clear hk8 hb8 HA2
  refine hK.out _ _ g8 (fun hHeld => ?_)
  clear hK K
  refine wpAnyH_take (i := 10) (oi := { dst := some 209, op := Op.pick (Operand.tmp 206) (Operand.tmp 208) (Operand.const (Value.bool false)), type := 4, pos := "law.go:106", after := #[{ on := 7, ground := Ground.data }, { on := 9, ground := Ground.data }], guard := none }) (v := ?_) rfl (by kernel_rfl) (by kernel_rfl) (by kernel_rfl) (fun _ _ _ h => h) (Or.inl ⟨by rfl, ?_⟩) (by assumption) ?_
  rotate_left
  · (intro w hSw; (try dsimp only at hSw); go_simp) <;> with_reducible rfl
  try simp only [Act.put, List.setIfInBounds_toArray, List.set_cons_zero, List.set_cons_succ]
  refine wpAnyH_take (i := 11) (oi := { dst := some 210, op := Op.move (Operand.tmp 209), type := 4, pos := "law.go:106", after := #[{ on := 10, ground := Ground.data }, { on := 9, ground := Ground.chain }], guard := none }) (v := ?_) rfl (by kernel_rfl) (by kernel_rfl) (by kernel_rfl) (fun _ _ _ h => h) (Or.inl ⟨by rfl, ?_⟩) (by assumption) ?_
  rotate_left
  · (intro w hSw; (try dsimp only at hSw); go_simp) <;> with_reducible rfl
  try simp only [Act.put, List.setIfInBounds_toArray, List.set_cons_zero, List.set_cons_succ]
  refine wpAnyH_take (i := 12) (oi := { dst := some 211, op := Op.move (Operand.tmp 0), type := 24, pos := "law.go:106", after := #[{ on := 11, ground := Ground.guard }], guard := some (11, true) }) (v := ?_) rfl (by kernel_rfl) (by kernel_rfl) (by kernel_rfl) (fun _ _ _ h => h) (Or.inl ⟨by rfl, ?_⟩) (by assumption) ?_
  rotate_left
  · (intro w hSw; (try dsimp only at hSw); go_simp) <;> with_reducible rfl
  try simp only [Act.put, List.setIfInBounds_toArray, List.set_cons_zero, List.set_cons_succ]
  refine wpAnyH_take (i := 13) (oi := { dst := some 212, op := Op.nilCheck (Operand.tmp 211), type := 0, pos := "law.go:106", after := #[{ on := 12, ground := Ground.data }, { on := 11, ground := Ground.guard }], guard := some (11, true) }) (v := ?_) rfl (by kernel_rfl) (by kernel_rfl) (by kernel_rfl) (fun _ _ _ h => h) (Or.inl ⟨by rfl, ?_⟩) (by assumption) ?_
  rotate_left
  · (intro w hSw; (try dsimp only at hSw); go_simp) <;> with_reducible rfl
  try simp only [Act.put, List.setIfInBounds_toArray, List.set_cons_zero, List.set_cons_succ]
  refine wpAnyH_take (i := 14) (oi := { dst := some 213, op := Op.fieldAddr 36 (Operand.tmp 212) 0, type := 0, pos := "law.go:106", after := #[{ on := 13, ground := Ground.data }, { on := 11, ground := Ground.guard }], guard := some (11, true) }) (v := ?_) rfl (by kernel_rfl) (by kernel_rfl) (by kernel_rfl) (fun _ _ _ h => h) (Or.inl ⟨by rfl, ?_⟩) (by assumption) ?_
  rotate_left
  · (intro w hSw; (try dsimp only at hSw); go_simp) <;> with_reducible rfl
  try simp only [Act.put, List.setIfInBounds_toArray, List.set_cons_zero, List.set_cons_succ]
  refine wpAnyH_take (i := 15) (oi := { dst := some 214, op := Op.load 27 (Operand.tmp 213), type := 27, pos := "law.go:106", after := #[{ on := 14, ground := Ground.data }, { on := 11, ground := Ground.guard }], guard := some (11, true) }) (v := ?_) rfl (by kernel_rfl) (by kernel_rfl) (by kernel_rfl) (fun _ _ _ h => h) (Or.inl ⟨by rfl, ?_⟩) (by assumption) ?_
  rotate_left
  · (intro w hSw; (try dsimp only at hSw); go_simp) <;> with_reducible rfl
  try simp only [Act.put, List.setIfInBounds_toArray, List.set_cons_zero, List.set_cons_succ]
  refine wpAnyH_take (i := 17) (oi := { dst := some 216, op := Op.move (Operand.tmp 0), type := 24, pos := "law.go:106", after := #[{ on := 11, ground := Ground.guard }], guard := some (11, true) }) (v := ?_) rfl (by kernel_rfl) (by kernel_rfl) (by kernel_rfl) (fun _ _ _ h => h) (Or.inl ⟨by rfl, ?_⟩) (by assumption) ?_
  rotate_left
  · (intro w hSw; (try dsimp only at hSw); go_simp) <;> with_reducible rfl
  try simp only [Act.put, List.setIfInBounds_toArray, List.set_cons_zero, List.set_cons_succ]
  refine wpAnyH_take (i := 18) (oi := { dst := some 217, op := Op.nilCheck (Operand.tmp 216), type := 0, pos := "law.go:106", after := #[{ on := 17, ground := Ground.data }, { on := 11, ground := Ground.guard }], guard := some (11, true) }) (v := ?_) rfl (by kernel_rfl) (by kernel_rfl) (by kernel_rfl) (fun _ _ _ h => h) (Or.inl ⟨by rfl, ?_⟩) (by assumption) ?_
  rotate_left
  · (intro w hSw; (try dsimp only at hSw); go_simp) <;> with_reducible rfl
  try simp only [Act.put, List.setIfInBounds_toArray, List.set_cons_zero, List.set_cons_succ]
  refine wpAnyH_take (i := 19) (oi := { dst := some 218, op := Op.fieldAddr 36 (Operand.tmp 217) 1, type := 0, pos := "law.go:106", after := #[{ on := 18, ground := Ground.data }, { on := 11, ground := Ground.guard }], guard := some (11, true) }) (v := ?_) rfl (by kernel_rfl) (by kernel_rfl) (by kernel_rfl) (fun _ _ _ h => h) (Or.inl ⟨by rfl, ?_⟩) (by assumption) ?_
  rotate_left
  · (intro w hSw; (try dsimp only at hSw); go_simp) <;> with_reducible rfl
  try simp only [Act.put, List.setIfInBounds_toArray, List.set_cons_zero, List.set_cons_succ]
  refine wpAnyH_take (i := 20) (oi := { dst := some 219, op := Op.load 31 (Operand.tmp 218), type := 31, pos := "law.go:106", after := #[{ on := 19, ground := Ground.data }, { on := 11, ground := Ground.guard }], guard := some (11, true) }) (v := ?_) rfl (by kernel_rfl) (by kernel_rfl) (by kernel_rfl) (fun _ _ _ h => h) (Or.inl ⟨by rfl, ?_⟩) (by assumption) ?_
  rotate_left
  · (intro w hSw; (try dsimp only at hSw); go_simp) <;> with_reducible rfl
  try simp only [Act.put, List.setIfInBounds_toArray, List.set_cons_zero, List.set_cons_succ]
  refine wpAnyH_take (i := 21) (oi := { dst := some 220, op := Op.nilCheck (Operand.tmp 219), type := 0, pos := "law.go:106", after := #[{ on := 20, ground := Ground.data }, { on := 11, ground := Ground.guard }], guard := some (11, true) }) (v := ?_) rfl (by kernel_rfl) (by kernel_rfl) (by kernel_rfl) (fun _ _ _ h => h) (Or.inl ⟨by rfl, ?_⟩) (by assumption) ?_
  rotate_left
  · (intro w hSw; (try dsimp only at hSw); go_simp) <;> with_reducible rfl
  try simp only [Act.put, List.setIfInBounds_toArray, List.set_cons_zero, List.set_cons_succ]
  refine wpAnyH_take (i := 22) (oi := { dst := some 221, op := Op.fieldAddr 52 (Operand.tmp 220) 0, type := 0, pos := "law.go:106", after := #[{ on := 21, ground := Ground.data }, { on := 11, ground := Ground.guard }], guard := some (11, true) }) (v := ?_) rfl (by kernel_rfl) (by kernel_rfl) (by kernel_rfl) (fun _ _ _ h => h) (Or.inl ⟨by rfl, ?_⟩) (by assumption) ?_
  rotate_left
  · (intro w hSw; (try dsimp only at hSw); go_simp) <;> with_reducible rfl
  try simp only [Act.put, List.setIfInBounds_toArray, List.set_cons_zero, List.set_cons_succ]
  refine wpAnyH_take (i := 23) (oi := { dst := some 222, op := Op.load 3 (Operand.tmp 221), type := 3, pos := "law.go:106", after := #[{ on := 22, ground := Ground.data }, { on := 11, ground := Ground.guard }], guard := some (11, true) }) (v := ?_) rfl (by kernel_rfl) (by kernel_rfl) (by kernel_rfl) (fun _ _ _ h => h) (Or.inl ⟨by rfl, ?_⟩) (by assumption) ?_
  rotate_left
  · (intro w hSw; (try dsimp only at hSw); go_simp) <;> with_reducible rfl
  try simp only [Act.put, List.setIfInBounds_toArray, List.set_cons_zero, List.set_cons_succ]
  refine wpAnyH_ready (rs := [16]) (by kernel_rfl) (by simp) ?_
  refine AllReadyH.cons (o := { dst := some 215, op := Op.call { callee := Callee.value (Operand.func 11), args := #[Operand.tmp 214], argTypes := #[27] }, type := 3, pos := "law.go:106", after := #[{ on := 15, ground := Ground.data }, { on := 11, ground := Ground.chain }, { on := 11, ground := Ground.guard }], guard := some (11, true) }) rfl (fun K hK => ?_) AllReadyH.nil
  go_simp
  refine Calls.mono (now_any H8.out.1.ck) ?_
  rintro y9 w9 ⟨rfl, hw9⟩
  rw [hw9]
  clear hw9 w9
  rw [HTN.out]
  refine hK.out _ _ g8 (fun hHeld => ?_)
  clear hK K
  refine wpAnyH_take (i := 24) (oi := { dst := some 223, op := Op.binOp BinOp.eql 3 (Operand.tmp 215) (Operand.tmp 222) 3, type := 4, pos := "law.go:106", after := #[{ on := 16, ground := Ground.data }, { on := 23, ground := Ground.data }, { on := 11, ground := Ground.guard }], guard := some (11, true) }) (v := ?_) rfl (by kernel_rfl) (by kernel_rfl) (by kernel_rfl) (fun _ _ _ h => h) (Or.inl ⟨by rfl, ?_⟩) (by assumption) ?_
  rotate_left
  · (intro w hSw; (try dsimp only at hSw); go_simp) <;> with_reducible rfl
  try simp only [Act.put, List.setIfInBounds_toArray, List.set_cons_zero, List.set_cons_succ]
  refine wpAnyH_take (i := 25) (oi := { dst := some 224, op := Op.pick (Operand.tmp 210) (Operand.tmp 223) (Operand.const (Value.bool false)), type := 4, pos := "law.go:106", after := #[{ on := 11, ground := Ground.data }, { on := 24, ground := Ground.data }], guard := none }) (v := ?_) rfl (by kernel_rfl) (by kernel_rfl) (by kernel_rfl) (fun _ _ _ h => h) (Or.inl ⟨by rfl, ?_⟩) (by assumption) ?_
  rotate_left
  · (intro w hSw; (try dsimp only at hSw); go_simp) <;> with_reducible rfl
  try simp only [Act.put, List.setIfInBounds_toArray, List.set_cons_zero, List.set_cons_succ]
  refine wpAnyH_take (i := 26) (oi := { dst := some 4, op := Op.assign (Operand.tmp 224), type := 4, pos := "law.go:106", after := #[{ on := 25, ground := Ground.data }, { on := 16, ground := Ground.chain }, { on := 0, ground := Ground.phase }, { on := 1, ground := Ground.phase }, { on := 2, ground := Ground.phase }, { on := 3, ground := Ground.phase }, { on := 4, ground := Ground.phase }, { on := 5, ground := Ground.phase }, { on := 6, ground := Ground.phase }, { on := 7, ground := Ground.phase }, { on := 8, ground := Ground.phase }, { on := 9, ground := Ground.phase }, { on := 10, ground := Ground.phase }, { on := 11, ground := Ground.phase }, { on := 12, ground := Ground.phase }, { on := 13, ground := Ground.phase }, { on := 14, ground := Ground.phase }, { on := 15, ground := Ground.phase }, { on := 16, ground := Ground.phase }, { on := 17, ground := Ground.phase }, { on := 18, ground := Ground.phase }, { on := 19, ground := Ground.phase }, { on := 20, ground := Ground.phase }, { on := 21, ground := Ground.phase }, { on := 22, ground := Ground.phase }, { on := 23, ground := Ground.phase }, { on := 24, ground := Ground.phase }, { on := 25, ground := Ground.phase }], guard := none }) (v := ?_) rfl (by kernel_rfl) (by kernel_rfl) (by kernel_rfl) (fun _ _ _ h => h) (Or.inl ⟨by rfl, ?_⟩) (by assumption) ?_
  rotate_left
  · (intro w hSw; (try dsimp only at hSw); go_simp) <;> with_reducible rfl
  try simp only [Act.put, List.setIfInBounds_toArray, List.set_cons_zero, List.set_cons_succ]
  refine wpAnyH_done (by kernel_rfl) ?_ _
  clear hHeld
  have HE : Hid (DoTo w W0 w8 own1 p R T) := ⟨own1, R, H8.out.1, HF.out, ⟨rfl, rfl, rfl⟩, fun _ _ => rfl, kept_of_belowS H8.out.2⟩
  have hnn : (R.now == R.now) = true := by simp
  clear H8 g8
  go_wp2
  all_goals (go_ret; exact ⟨by first | rfl | simp, HOut.out _ HE.out⟩)
end
end Go.Proofs.YtmniefmjdfdedaaGreatDoor
