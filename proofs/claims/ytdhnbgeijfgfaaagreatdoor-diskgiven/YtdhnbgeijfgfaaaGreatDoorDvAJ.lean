/- A call of the statements of layer 2 whose lists lie in memory that is newer than both disks. -/
import Derived.Test.YtdhnbgeijfgfaaaGreatDoorReAJ
namespace Go.Proofs.YtdhnbgeijfgfaaaGreatDoor
open Go.RowKit Go.Shelf
set_option maxRecDepth 8000

def Btw (a b k : Nat) : Prop := a ≤ k ∧ k < b

theorem both_ofN {w0 w w9 : World} {p q : Nat} {D : DkD} {R : RD} {k : Nat} {fv rv : Value} {ms : List FiM} {vs : List Value} {N : Nat → Prop} (hd : IsDk w p fv ms D) (hr : IsRd w q rv vs R) (hap : ∀ j ∈ foot p fv ms, j ∉ rfoot q rv vs) (h4 : ∀ j ∈ foot p fv ms, w0.heap.size ≤ j) (h5 : ∀ j ∈ rfoot q rv vs, w0.heap.size ≤ j)
    (ok : DkOk D) (hc : Calm D) (hp : Play D R) (hm : R.more ≤ 9223372036854775807) (hw : D.writes ≤ k) (hb : Below w0.heap.size w0 w) (n1 : ∀ j ∈ foot p fv ms, ¬ N j) (n2 : ∀ j ∈ rfoot q rv vs, ¬ N j) (n3 : ∀ j, N j → w0.heap.size ≤ j) (hk : Kept w w9 N) : Both w0 w9 p q D R k :=
  ⟨⟨fv, ms, rv, vs, hd.kept hk n1, hr.kept hk n2, hap, h4, h5⟩, ok, hc, hp, hm, hw, hb.trans (hk.below hb.size n3)⟩

theorem turnedN {w0 w w1 w2 : World} {p q : Nat} {D1 : DkD} {R1 : RD} {N : Nat → Prop} {fv fv1 rv rv1 : Value} {ms ms1 : List FiM} {vs vs1 : List Value} (hn : (∀ j ∈ foot p fv ms, ¬ N j) ∧ (∀ j ∈ rfoot q rv vs, ¬ N j) ∧ (∀ j, N j → w0.heap.size ≤ j ∧ j < w.heap.size)) (ht : DkTo w p fv ms w1 D1 fv1 ms1) (ht2 : RdTo w1 q rv vs w2 R1 rv1 vs1) : ∀ j, N j → w2.heap[j]? = w.heap[j]? := fun j hj =>
  (ht2.kept.block j (Nat.lt_of_lt_of_le (hn.2.2 j hj).2 ht.kept.size) (fun e => hn.2.1 j e hj)).trans (ht.kept.block j (hn.2.2 j hj).2 (fun e => hn.1 j e hj))

theorem Both.bothN {w0 w w1 w2 w9 : World} {p q : Nat} {D D1 : DkD} {R R1 : RD} {k k1 : Nat} {N : Nat → Prop} {fv fv1 rv rv1 : Value} {ms ms1 : List FiM} {vs vs1 : List Value} (hn : (∀ j ∈ foot p fv ms, ¬ N j) ∧ (∀ j ∈ rfoot q rv vs, ¬ N j) ∧ (∀ j, N j → w0.heap.size ≤ j ∧ j < w.heap.size)) (hk : Kept w2 w9 N) (h : Both w0 w p q D R k) (hr : IsRd w q rv vs R) (hap : ∀ j ∈ foot p fv ms, j ∉ rfoot q rv vs) (h4 : ∀ j ∈ foot p fv ms, w0.heap.size ≤ j) (h5 : ∀ j ∈ rfoot q rv vs, w0.heap.size ≤ j) (ht : DkTo w p fv ms w1 D1 fv1 ms1) (ht2 : RdTo w1 q rv vs w2 R1 rv1 vs1) (ok : DkOk D1) (hc : Calm D1) (hp : Play D1 R1) (hm : R1.more ≤ 9223372036854775807) (hw : D1.writes ≤ k1) : Both w0 w9 p q D1 R1 k1 := by
  obtain ⟨i1, a1⟩ := both_dk hr hap ht
  obtain ⟨i2, a2⟩ := both_rd ht.is a1 ht2
  have hs := h.bel.size
  have hs1 := ht.kept.size
  have hb2 : Below w0.heap.size w0 w2 := (h.bel.trans (ht.kept.below hs (fun j e => h4 j e))).trans (ht2.kept.below (by omega) (fun j e => h5 j e))
  refine both_ofN i2 ht2.is a2 (fun j hj => ?_) (fun j hj => ?_) ok hc hp hm hw hb2 (fun j hj => ?_) (fun j hj => ?_) (fun j hj => (hn.2.2 j hj).1) hk
  · rcases ht.foot j hj with e | e
    · exact h4 j e
    · omega
  · rcases ht2.foot j hj with e | e
    · exact h5 j e
    · omega
  · rcases ht.foot j hj with e | e
    · exact hn.1 j e
    · intro e2; have := (hn.2.2 j e2).2; omega
  · rcases ht2.foot j hj with e | e
    · exact hn.2.1 j e
    · intro e2; have := (hn.2.2 j e2).2; omega

structure GoodOpN (w : World) (N : Nat → Prop) (o : OpK) : Prop where
  see : Sees w o.pv o.p
  keep : SeesN w o.kv o.keep
  pl : o.p.length ≤ 140737488355328
  kl : o.keep.length ≤ 140737488355328
  nl : o.name.size ≤ 140737488355328
  dl : o.dest.size ≤ 140737488355328
  pb : o.p ≠ [] → ∀ k, o.pv.ownBlock = some k → N k
  kb : o.keep ≠ [] → ∀ k, o.kv.ownBlock = some k → N k
  n1 : o.n ≤ 9223372036854775807

theorem GoodOpN.kept {w w' : World} {S : Nat → Prop} {N : Nat → Prop} {o : OpK} (h : GoodOpN w N o) (hk : Kept w w' S) (hS : ∀ k, N k → ¬ S k) : GoodOpN w' N o :=
  ⟨h.see.keptN hk (fun hy k e => hS k (h.pb hy k e)), h.keep.kept hk (fun hy k e => hS k (h.kb hy k e)), h.pl, h.kl, h.nl, h.dl, h.pb, h.kb, h.n1⟩

set_option maxHeartbeats 1000000 in
theorem act_anyN {w : World} {p : Nat} {fv : Value} {ms : List FiM} {D : DkD} (h : IsDk w p fv ms D) (ok : DkOk D) (hw : D.writes ≤ 4611686018427387904) (o : OpK) (N : Nat → Prop) (ho : GoodOpN w N o) (hpl : o.p.length ≤ 100000000000) (hn : ∀ k, N k → k < w.heap.size ∧ k ∉ foot p fv ms) :
    Calls Tryz.prog 48 #[.pointer (some ⟨p, 0, none⟩), .agg o.cells.toArray] w (ActTo w p fv ms (actK D o)) := by
  obtain ⟨V, eV⟩ : ∃ V, V = w.alloc (.cells o.cells.toArray 41) := ⟨_, rfl⟩
  have hbV : Below w.heap.size w V := by rw [eV]; exact one_allocK _ _
  have hV : IsDk V p fv ms D := h.later hbV
  have hrow : V.heap[w.heap.size]? = some (.cells o.cells.toArray 41 (0, 0)) := by rw [eV]; exact heap_alloc_new w _
  have hszV : w.heap.size < V.heap.size := lt_of_block hrow
  have d0 : V.cell? ⟨w.heap.size, 0, none⟩ = some (.int .i64 o.kind) := cell_of_row V _ 0 _ _ _ hrow
  have d1 : V.cell? ⟨w.heap.size, 1, none⟩ = some (.string o.name) := cell_of_row V _ 1 _ _ _ hrow
  have d2 : V.cell? ⟨w.heap.size, 2, none⟩ = some (.string o.dest) := cell_of_row V _ 2 _ _ _ hrow
  have d3 : V.cell? ⟨w.heap.size, 3, none⟩ = some (.slice o.pa o.p.length o.pc) := cell_of_row V _ 3 _ _ _ hrow
  have d4 : V.cell? ⟨w.heap.size, 4, none⟩ = some (.int .i64 o.n) := cell_of_row V _ 4 _ _ _ hrow
  have HA : Hid _ := append_any hV ok hw o.name o.pv o.p (ho.see.keptN (Below.kept hbV) (fun hy k e e' => by have := (hn k (ho.pb hy k e)).1; omega)) (fun hy k e => ⟨by have := (hn k (ho.pb hy k e)).1; omega, (hn k (ho.pb hy k e)).2⟩) hpl
  have HS : Hid _ := sync_any hV ok hw o.name
  have HC : Hid _ := cut_any hV ok hw o.name o.n
  have HR : Hid _ := rename_any hV ok hw o.name o.dest
  have HM : Hid _ := remove_any hV ok hw o.name
  have HB : Hid _ := hbV
  have HI : Hid _ := h
  have HE : Hid _ := eV
  obtain ⟨r, hr⟩ : ∃ r, r = actK D o := ⟨_, rfl⟩
  rw [← hr]
  have HRR : Hid _ := hr
  unfold actK at HRR
  have hl := lt_of_block h.row
  have hlV := lt_of_block hV.row
  clear h ok ho hn hbV hV hrow eV hr hpl
  unfold OpK.pv at HA
  obtain ⟨kind, name, dest, pa, pc, pp, nn, ka, kc, keep⟩ := o
  simp only [OpK.cells] at *
  by_cases h1 : kind = 1
  · subst h1
    rw [if_pos rfl] at HRR
    clear HS HC HR HM
    go_enter Tryz.func48, Tryz.ntmps48
    go_upto_region 1 with fail
    rw [← HE.out]
    go_wp2_with fail
    refine Calls.mono HA.out ?_
    rintro e w1 ⟨rfl, fv1, ms1, ht⟩
    have H1 : Hid _ := ht
    clear ht HA
    go_wp2_with fail
    go_ret
    exact ⟨by rw [HRR.out]; rfl, fv1, ms1, by rw [HRR.out]; exact DkTo.after HB.out H1.out⟩
  · by_cases h2 : kind = 2
    · subst h2
      rw [if_neg (by decide), if_pos rfl] at HRR
      clear HA HC HR HM h1
      go_enter Tryz.func48, Tryz.ntmps48
      go_upto_region 1 with fail
      rw [← HE.out]
      go_wp2_with fail
      refine Calls.mono HS.out ?_
      rintro e w1 ⟨rfl, fv1, ms1, ht⟩
      have H1 : Hid _ := ht
      clear ht HS
      go_wp2_with fail
      go_ret
      exact ⟨by rw [HRR.out]; rfl, fv1, ms1, by rw [HRR.out]; exact DkTo.after HB.out H1.out⟩
    · by_cases h3 : kind = 3
      · subst h3
        rw [if_neg (by decide), if_neg (by decide), if_pos rfl] at HRR
        clear HA HS HR HM h1 h2
        go_enter Tryz.func48, Tryz.ntmps48
        go_upto_region 1 with fail
        rw [← HE.out]
        go_wp2_with fail
        refine Calls.mono HC.out ?_
        rintro e w1 ⟨rfl, fv1, ms1, ht⟩
        have H1 : Hid _ := ht
        clear ht HC
        go_wp2_with fail
        go_ret
        exact ⟨by rw [HRR.out]; rfl, fv1, ms1, by rw [HRR.out]; exact DkTo.after HB.out H1.out⟩
      · by_cases h4 : kind = 4
        · subst h4
          rw [if_neg (by decide), if_neg (by decide), if_neg (by decide), if_pos rfl] at HRR
          clear HA HS HC HM h1 h2 h3
          go_enter Tryz.func48, Tryz.ntmps48
          go_upto_region 1 with fail
          rw [← HE.out]
          go_wp2_with fail
          refine Calls.mono HR.out ?_
          rintro e w1 ⟨rfl, fv1, ms1, ht⟩
          have H1 : Hid _ := ht
          clear ht HR
          go_wp2_with fail
          go_ret
          exact ⟨by rw [HRR.out]; rfl, fv1, ms1, by rw [HRR.out]; exact DkTo.after HB.out H1.out⟩
        · by_cases h5 : kind = 5
          · subst h5
            rw [if_neg (by decide), if_neg (by decide), if_neg (by decide), if_neg (by decide), if_pos rfl] at HRR
            clear HA HS HC HR h1 h2 h3 h4
            go_enter Tryz.func48, Tryz.ntmps48
            go_upto_region 1 with fail
            rw [← HE.out]
            go_wp2_with fail
            refine Calls.mono HM.out ?_
            rintro e w1 ⟨rfl, fv1, ms1, ht⟩
            have H1 : Hid _ := ht
            clear ht HM
            go_wp2_with fail
            go_ret
            exact ⟨by rw [HRR.out]; rfl, fv1, ms1, by rw [HRR.out]; exact DkTo.after HB.out H1.out⟩
          · rw [if_neg h1, if_neg h2, if_neg h3, if_neg h4, if_neg h5] at HRR
            clear HA HS HC HR HM
            have e1 : (kind == 1) = false := by simpa using h1
            have e2 : (kind == 2) = false := by simpa using h2
            have e3 : (kind == 3) = false := by simpa using h3
            have e4 : (kind == 4) = false := by simpa using h4
            have e5 : (kind == 5) = false := by simpa using h5
            go_enter Tryz.func48, Tryz.ntmps48
            go_upto_region 1 with fail
            rw [← HE.out]
            go_wp2_with fail
            go_ret
            exact ⟨by rw [HRR.out]; rfl, _, _, by rw [HRR.out]; exact (DkTo.refl HI.out).then HB.out⟩

set_option maxHeartbeats 1000000 in
theorem want_anyN {w : World} {p : Nat} {fv : Value} {vs : List Value} {R : RD} (h : IsRd w p fv vs R) (ok : RdOk R) (o : OpK) (N : Nat → Prop) (ho : GoodOpN w N o) (hpl : o.p.length ≤ 100000000000) (hn : ∀ k, N k → k < w.heap.size ∧ k ∉ rfoot p fv vs) :
    Calls Tryz.prog 49 #[.pointer (some ⟨p, 0, none⟩), .agg o.cells.toArray] w (RctTo w p fv vs (wantK R o)) := by
  obtain ⟨V, eV⟩ : ∃ V, V = w.alloc (.cells o.cells.toArray 41) := ⟨_, rfl⟩
  have hbV : Below w.heap.size w V := by rw [eV]; exact one_allocK _ _
  have hV : IsRd V p fv vs R := h.later hbV
  have hrow : V.heap[w.heap.size]? = some (.cells o.cells.toArray 41 (0, 0)) := by rw [eV]; exact heap_alloc_new w _
  have hszV : w.heap.size < V.heap.size := lt_of_block hrow
  have d0 : V.cell? ⟨w.heap.size, 0, none⟩ = some (.int .i64 o.kind) := cell_of_row V _ 0 _ _ _ hrow
  have d1 : V.cell? ⟨w.heap.size, 1, none⟩ = some (.string o.name) := cell_of_row V _ 1 _ _ _ hrow
  have d2 : V.cell? ⟨w.heap.size, 2, none⟩ = some (.string o.dest) := cell_of_row V _ 2 _ _ _ hrow
  have d3 : V.cell? ⟨w.heap.size, 3, none⟩ = some (.slice o.pa o.p.length o.pc) := cell_of_row V _ 3 _ _ _ hrow
  have d4 : V.cell? ⟨w.heap.size, 4, none⟩ = some (.int .i64 o.n) := cell_of_row V _ 4 _ _ _ hrow
  have HA : Hid _ := refAppend_any hV ok o.name ho.nl o.pv o.p (ho.see.keptN (Below.kept hbV) (fun hy k e e' => by have := (hn k (ho.pb hy k e)).1; omega)) (fun hy k e => ⟨by have := (hn k (ho.pb hy k e)).1; omega, (hn k (ho.pb hy k e)).2⟩) hpl
  have HS : Hid _ := refSync_any hV ok o.name ho.nl
  have HC : Hid _ := refCut_any hV ok o.name ho.nl o.n
  have HR : Hid _ := refRename_any hV ok o.name o.dest ho.nl ho.dl
  have HM : Hid _ := refRemove_any hV ok o.name ho.nl
  have HB : Hid _ := hbV
  have HI : Hid _ := h
  have HE : Hid _ := eV
  obtain ⟨r, hr⟩ : ∃ r, r = wantK R o := ⟨_, rfl⟩
  rw [← hr]
  have HRR : Hid _ := hr
  unfold wantK at HRR
  have hl := lt_of_block h.row
  have hlV := lt_of_block hV.row
  clear h ok ho hn hbV hV hrow eV hr hpl
  unfold OpK.pv at HA
  obtain ⟨kind, name, dest, pa, pc, pp, nn, ka, kc, keep⟩ := o
  simp only [OpK.cells] at *
  by_cases h1 : kind = 1
  · subst h1
    rw [if_pos rfl] at HRR
    clear HS HC HR HM
    go_enter Tryz.func49, Tryz.ntmps49
    go_upto_region 1 with fail
    rw [← HE.out]
    go_wp2_with fail
    refine Calls.mono HA.out ?_
    rintro e w1 ⟨rfl, fv1, vs1, ht⟩
    have H1 : Hid _ := ht
    clear ht HA
    go_wp2_with fail
    go_ret
    exact ⟨by rw [HRR.out]; rfl, fv1, vs1, by rw [HRR.out]; exact RdTo.after HB.out H1.out⟩
  · by_cases h2 : kind = 2
    · subst h2
      rw [if_neg (by decide), if_pos rfl] at HRR
      clear HA HC HR HM h1
      go_enter Tryz.func49, Tryz.ntmps49
      go_upto_region 1 with fail
      rw [← HE.out]
      go_wp2_with fail
      refine Calls.mono HS.out ?_
      rintro e w1 ⟨rfl, fv1, vs1, ht⟩
      have H1 : Hid _ := ht
      clear ht HS
      go_wp2_with fail
      go_ret
      exact ⟨by rw [HRR.out]; rfl, fv1, vs1, by rw [HRR.out]; exact RdTo.after HB.out H1.out⟩
    · by_cases h3 : kind = 3
      · subst h3
        rw [if_neg (by decide), if_neg (by decide), if_pos rfl] at HRR
        clear HA HS HR HM h1 h2
        go_enter Tryz.func49, Tryz.ntmps49
        go_upto_region 1 with fail
        rw [← HE.out]
        go_wp2_with fail
        refine Calls.mono HC.out ?_
        rintro e w1 ⟨rfl, fv1, vs1, ht⟩
        have H1 : Hid _ := ht
        clear ht HC
        go_wp2_with fail
        go_ret
        exact ⟨by rw [HRR.out]; rfl, fv1, vs1, by rw [HRR.out]; exact RdTo.after HB.out H1.out⟩
      · by_cases h4 : kind = 4
        · subst h4
          rw [if_neg (by decide), if_neg (by decide), if_neg (by decide), if_pos rfl] at HRR
          clear HA HS HC HM h1 h2 h3
          go_enter Tryz.func49, Tryz.ntmps49
          go_upto_region 1 with fail
          rw [← HE.out]
          go_wp2_with fail
          refine Calls.mono HR.out ?_
          rintro e w1 ⟨rfl, fv1, vs1, ht⟩
          have H1 : Hid _ := ht
          clear ht HR
          go_wp2_with fail
          go_ret
          exact ⟨by rw [HRR.out]; rfl, fv1, vs1, by rw [HRR.out]; exact RdTo.after HB.out H1.out⟩
        · by_cases h5 : kind = 5
          · subst h5
            rw [if_neg (by decide), if_neg (by decide), if_neg (by decide), if_neg (by decide), if_pos rfl] at HRR
            clear HA HS HC HR h1 h2 h3 h4
            go_enter Tryz.func49, Tryz.ntmps49
            go_upto_region 1 with fail
            rw [← HE.out]
            go_wp2_with fail
            refine Calls.mono HM.out ?_
            rintro e w1 ⟨rfl, fv1, vs1, ht⟩
            have H1 : Hid _ := ht
            clear ht HM
            go_wp2_with fail
            go_ret
            exact ⟨by rw [HRR.out]; rfl, fv1, vs1, by rw [HRR.out]; exact RdTo.after HB.out H1.out⟩
          · rw [if_neg h1, if_neg h2, if_neg h3, if_neg h4, if_neg h5] at HRR
            clear HA HS HC HR HM
            have e1 : (kind == 1) = false := by simpa using h1
            have e2 : (kind == 2) = false := by simpa using h2
            have e3 : (kind == 3) = false := by simpa using h3
            have e4 : (kind == 4) = false := by simpa using h4
            have e5 : (kind == 5) = false := by simpa using h5
            go_enter Tryz.func49, Tryz.ntmps49
            go_upto_region 1 with fail
            rw [← HE.out]
            go_wp2_with fail
            go_ret
            exact ⟨by rw [HRR.out]; rfl, _, _, by rw [HRR.out]; exact (RdTo.refl HI.out).then HB.out⟩

set_option maxHeartbeats 4000000 in
theorem step_anyN {w0 wr w : World} {p q : Nat} {D : DkD} {R : RD} {k : Nat} (h : Both w0 wr p q D R k) (hbr : Below wr.heap.size wr w) (hk : k ≤ 4611686018427387900) (o : OpK) (ho : GoodOpN w (Btw wr.heap.size w.heap.size) o) (hpl : o.p.length ≤ 100000000000) :
    Calls Tryz.prog 14 #[.pointer (some ⟨p, 0, none⟩), .pointer (some ⟨q, 0, none⟩), .agg o.cells.toArray] w fun e w' => e = .returned (.bool true) ∧ (∀ j, Btw wr.heap.size w.heap.size j → w'.heap[j]? = w.heap[j]?) ∧ ∃ D' R', ∀ w9, Kept w' w9 (Btw wr.heap.size w.heap.size) → Both w0 w9 p q D' R' (k + 1) := by
  obtain ⟨V, eV⟩ : ∃ V, V = w.alloc (.cells o.cells.toArray 41) := ⟨_, rfl⟩
  have hbV : Below w.heap.size w V := by rw [eV]; exact one_allocK _ _
  have hbs := hbr.size
  have hB2 : Below wr.heap.size wr V := Below.step hbr hbV
  have hV : Both w0 V p q D R k := h.later hB2
  have hrow : V.heap[w.heap.size]? = some (.cells o.cells.toArray 41 (0, 0)) := by rw [eV]; exact heap_alloc_new w _
  have hszV : w.heap.size < V.heap.size := lt_of_block hrow
  have hoV : GoodOpN V (Btw wr.heap.size w.heap.size) o := ho.kept (Below.kept hbV) (fun j hj e => by have := hj.2; omega)
  obtain ⟨fv, ms, rv, vs, g1, g2, hap, h4, h5⟩ := h.ex
  have hd := g1.later hB2
  have hr := g2.later hB2
  have HT4 : Hid ((∀ j ∈ foot p fv ms, j < wr.heap.size) ∧ (∀ j ∈ rfoot q rv vs, j < wr.heap.size) ∧ wr.heap.size ≤ w.heap.size ∧ w.heap.size < V.heap.size) := ⟨fun j e => g1.lt e, fun j e => g2.lt e, hbs, hszV⟩
  have HNF : Hid ((∀ j ∈ foot p fv ms, ¬ Btw wr.heap.size w.heap.size j) ∧ (∀ j ∈ rfoot q rv vs, ¬ Btw wr.heap.size w.heap.size j) ∧ (∀ j, Btw wr.heap.size w.heap.size j → w0.heap.size ≤ j ∧ j < V.heap.size)) := ⟨fun j e h => by have := g1.lt e; have := h.1; omega, fun j e h => by have := g2.lt e; have := h.1; omega, fun j hj => ⟨by have := h.bel.size; have := hj.1; omega, by have := hj.2; omega⟩⟩
  have HVW : Hid (∀ j, Btw wr.heap.size w.heap.size j → V.heap[j]? = w.heap[j]?) := fun j hj => hbV.block j hj.2
  have HKN : Hid (∀ w8 w9, Below V.heap.size V w8 → Kept w8 w9 (Btw wr.heap.size w.heap.size) → Both w0 w9 p q D R k) := fun w8 w9 hb8 hk9 => both_ofN (hd.later hb8) (hr.later hb8) hap h4 h5 hV.ok hV.calm hV.play hV.more hV.writes (Below.step hV.bel hb8) HNF.out.1 HNF.out.2.1 (fun j hj => (HNF.out.2.2 j hj).1) hk9
  have hrd := hV.rdOk (by omega)
  have hbx : w.heap.size ∉ foot p fv ms ∧ w.heap.size ∉ rfoot q rv vs := ⟨fun e => by have := g1.lt e; omega, fun e => by have := g2.lt e; omega⟩
  have HX : Hid (IsDk V p fv ms D ∧ IsRd V q rv vs R ∧ (∀ j ∈ foot p fv ms, j ∉ rfoot q rv vs) ∧ (∀ j ∈ foot p fv ms, w0.heap.size ≤ j) ∧ (∀ j ∈ rfoot q rv vs, w0.heap.size ≤ j) ∧ Both w0 V p q D R k ∧ RdOk R ∧ GoodOpN V (Btw wr.heap.size w.heap.size) o ∧ (w.heap.size ∉ foot p fv ms ∧ w.heap.size ∉ rfoot q rv vs) ∧ V.heap[w.heap.size]? = some (.cells o.cells.toArray 41 (0, 0)) ∧ w0.heap.size ≤ V.heap.size) := ⟨hd, hr, hap, h4, h5, hV, hrd, hoV, hbx, hrow, hV.bel.size⟩
  have d0 : V.cell? ⟨w.heap.size, 0, none⟩ = some (.int .i64 o.kind) := cell_of_row V _ 0 _ _ _ hrow
  have d1 : V.cell? ⟨w.heap.size, 1, none⟩ = some (.string o.name) := cell_of_row V _ 1 _ _ _ hrow
  have d2 : V.cell? ⟨w.heap.size, 2, none⟩ = some (.string o.dest) := cell_of_row V _ 2 _ _ _ hrow
  have d3 : V.cell? ⟨w.heap.size, 3, none⟩ = some (.slice o.pa o.p.length o.pc) := cell_of_row V _ 3 _ _ _ hrow
  have d4 : V.cell? ⟨w.heap.size, 4, none⟩ = some (.int .i64 o.n) := cell_of_row V _ 4 _ _ _ hrow
  have d5 : V.cell? ⟨w.heap.size, 5, none⟩ = some (.slice o.ka o.keep.length o.kc) := cell_of_row V _ 5 _ _ _ hrow
  have hlp := lt_of_block hd.row
  have hlq := lt_of_block hr.row
  have HE : Hid _ := eV
  have HPL : Hid _ := hpl
  clear hbs hB2 hbr
  clear h hbV hV hrow hoV g1 g2 hap h4 h5 hd hr hrd hbx eV ho hpl
  obtain ⟨kind, name, dest, pa, pc, pp, nn, ka, kc, keep⟩ := o
  simp only [OpK.cells] at *
  by_cases n6 : kind = 6
  · subst n6
    go_enter Tryz.func14, Tryz.ntmps14
    go_upto_region 1 with fail
    rw [← HE.out]
    go_wp2_with fail
    refine Calls.mono (read_any HX.out.1 HX.out.2.2.2.2.2.1.ok name) ?_
    rintro e w1 ⟨⟨v1, rfl, hv1, hv2⟩, hb1⟩
    have hrow1 : w1.heap[w.heap.size]? = some (.cells #[.int .i64 6, .string name, .string dest, .slice pa pp.length pc, .int .i64 nn, .slice ka keep.length kc] 41 (0, 0)) := (Below.kept hb1).heap HX.out.2.2.2.2.2.2.2.2.2.1 (fun e => by omega)
    have hl1 := lt_of_block hrow1
    have x1 := cell_of_row w1 _ 1 _ _ _ hrow1
    have HB : Hid _ := refRead_any (HX.out.2.1.later hb1) HX.out.2.2.2.2.2.2.1 name HX.out.2.2.2.2.2.2.2.1.nl
    have eE : R.errO name = D.errO name := by unfold RD.errO DkD.errO; rw [HX.out.2.2.2.2.2.1.play.on, HX.out.2.2.2.2.2.1.play.files]
    rw [eE] at HB
    have HR1 : Hid _ := And.intro hv1 (And.intro hv2 hb1)
    clear hrow1 hv1 hv2 hb1 eE
    go_wp2_with fail
    refine Calls.mono HB.out ?_
    rintro e w2 ⟨⟨v2, rfl, hv3, hv4⟩, hb2⟩
    have HBE : Hid (Below V.heap.size V w2) := Below.step HR1.out.2.2 hb2
    have HEQ : Hid (Calls Tryz.prog 15 #[v1, v2] w2 fun e w' => e = .returned (.bool true) ∧ ∃ n, w' = w2.drewN n) := by
      by_cases he : D.errO name = 0
      · obtain ⟨f1, hf1, ho1⟩ := HR1.out.2.1 he
        obtain ⟨f2, hf2, ho2⟩ := hv4 he
        rw [HX.out.2.2.2.2.2.1.play.files, hf1] at hf2
        cases hf2
        have h6 := eqBytes_any v1 v2 _ _ w2 (Sees.own (ho1.later hb2)) (Sees.own ho2)
        rw [decide_eq_true rfl] at h6
        exact h6
      · have e1 := HR1.out.1 he
        have e2 := hv3 he
        have hs : Sees w2 (.slice none 0 0) [] := ⟨none, 0, rfl, Nat.le_refl _, by simp [maxLen], fun _ => rfl, .inl rfl⟩
        have h6 := eqBytes_any (.slice none 0 0) (.slice none 0 0) _ _ w2 hs hs
        rw [decide_eq_true rfl, ← e1] at h6
        rw [e2, ← e1]
        exact h6
    have hbq : (D.errO name == D.errO name) = true := by simp
    clear hv3 hv4 hb2 HB HR1
    generalize D.errO name = E at *
    go_wp2_with fail
    refine Calls.mono HEQ.out ?_
    rintro e w3 ⟨rfl, m3, hw3⟩
    have HBE : Hid (Below V.heap.size V w3) := by rw [hw3]; exact below_drewN HBE.out m3
    clear hw3 HEQ
    go_wp2_with fail
    go_ret
    exact ⟨rfl, fun j hj => (HBE.out.block j (HNF.out.2.2 j hj).2).trans (HVW.out j hj), _, _, fun w9 hk9 => (HKN.out _ _ HBE.out hk9).mono (Nat.le_succ k)⟩
  · by_cases n7 : kind = 7
    · subst n7
      go_enter Tryz.func14, Tryz.ntmps14
      go_upto_region 1 with fail
      rw [← HE.out]
      go_wp2_with fail
      refine Calls.mono (dNames_any HX.out.1 HX.out.2.2.2.2.2.1.ok) ?_
      rintro e w1 ⟨rfl, hn1, hb1⟩
      have HB : Hid _ := refNames_any (HX.out.2.1.later hb1) HX.out.2.2.2.2.2.2.1.few
      have HR1 : Hid _ := And.intro hn1 hb1
      have hl1 := Nat.lt_of_lt_of_le hlq hb1.size
      clear hn1 hb1
      go_wp2_with fail
      refine Calls.mono HB.out ?_
      rintro e w2 ⟨v2, rfl, hn2, hb2⟩
      have HBE : Hid (Below V.heap.size V w2) := Below.step HR1.out.2 hb2
      have HEQ : Hid (Calls Tryz.prog 36 #[.slice (some ⟨V.heap.size, 0, none⟩) D.files.length D.files.length, v2] w2 fun e w' => e = .returned (.bool true) ∧ ∃ n, w' = w2.drewN n) := by
        rw [HX.out.2.2.2.2.2.1.play.files] at hn2
        have h7 := row_kept' HR1.out.1 (Below.kept hb2) (fun j e e' => by have := (HR1.out.1.lt j e).2; omega)
        exact eqNames_same h7 hn2 HX.out.2.2.2.2.2.1.ok.few
      clear hn2 hb2 HB HR1
      go_wp2_with fail
      refine Calls.mono HEQ.out ?_
      rintro e w3 ⟨rfl, m3, hw3⟩
      have HBE : Hid (Below V.heap.size V w3) := by rw [hw3]; exact below_drewN HBE.out m3
      clear hw3 HEQ
      go_wp2_with fail
      go_ret
      exact ⟨rfl, fun j hj => (HBE.out.block j (HNF.out.2.2 j hj).2).trans (HVW.out j hj), _, _, fun w9 hk9 => (HKN.out _ _ HBE.out hk9).mono (Nat.le_succ k)⟩
    · by_cases n8 : kind = 8
      · subst n8
        have HU : Hid (∀ m, Calls Tryz.prog 39 #[.pointer (some ⟨p, 0, none⟩)] (V.drewN m) fun e w' => e = .returned (.int .i64 (usedD D.files)) ∧ w' = V.drewN m) := fun m => dUsed_any (HX.out.1.later (below_drewN (Below.refl _ _) m)) HX.out.2.2.2.2.2.1.ok
        obtain ⟨fa, fc, hfv, hfc, hfm⟩ := img_shape HX.out.2.1.img
        have HSU : Hid (∀ m, Calls Tryz.prog 26 #[.slice fa R.files.length fc] (V.drewN m) fun e w' => e = .returned (.int .i64 (usedD D.files)) ∧ w' = V.drewN m) := fun m => by
          have h7 := refSum_any ((HX.out.2.1.later (below_drewN (Below.refl _ _) m)).img) HX.out.2.2.2.2.2.2.1.few (by have := HX.out.2.2.2.2.2.2.1.used; omega)
          rw [hfv, HX.out.2.2.2.2.2.1.play.files] at h7
          rw [HX.out.2.2.2.2.2.1.play.files]
          exact h7
        have x1 := HX.out.2.1.cells.2.1
        rw [hfv] at x1
        generalize usedD D.files = UU at *
        generalize R.files.length = FL at *
        clear hfv
        go_enter Tryz.func14, Tryz.ntmps14
        go_upto_region 1 with fail
        rw [← HE.out]
        go_upto_region 9 with fail
        go_quiet ((first | (go_at_call 39; exact Calls.quiet_of_same (HU.out _)) | (go_at_call 26; exact Calls.quiet_of_same (HSU.out _))))
        have HBE : Hid (Below V.heap.size V (V.drewN nq)) := below_drewN (Below.refl _ _) nq
        go_wp2_with fail
        go_ret
        exact ⟨rfl, fun j hj => (HBE.out.block j (HNF.out.2.2 j hj).2).trans (HVW.out j hj), _, _, fun w9 hk9 => (HKN.out _ _ HBE.out hk9).mono (Nat.le_succ k)⟩
      · by_cases n9 : kind = 9
        · subst n9
          go_enter Tryz.func14, Tryz.ntmps14
          go_upto_region 1 with fail
          rw [← HE.out]
          go_wp2_with fail
          refine Calls.mono (arm_any HX.out.1 nn) ?_
          rintro e w1 ⟨rfl, ht⟩
          have hrow1 : w1.heap[w.heap.size]? = some (.cells #[.int .i64 9, .string name, .string dest, .slice pa pp.length pc, .int .i64 nn, .slice ka keep.length kc] 41 (0, 0)) := ht.kept.heap HX.out.2.2.2.2.2.2.2.2.2.1 HX.out.2.2.2.2.2.2.2.2.1.1
          have hl1 := lt_of_block hrow1
          have x1 := cell_of_row w1 _ 4 _ _ _ hrow1
          have hr1 := both_dk HX.out.2.1 HX.out.2.2.1 ht
          have HT : Hid _ := ht
          have HB : Hid _ := refArm_any hr1.1 nn
          clear ht hrow1 hr1
          go_wp2_with fail
          refine Calls.mono HB.out ?_
          rintro e w2 ⟨rfl, ht2⟩
          have HT2 : Hid _ := ht2
          clear ht2
          go_wp2_with fail
          go_ret
          exact ⟨rfl, fun j hj => (turnedN HNF.out HT.out HT2.out j hj).trans (HVW.out j hj), _, _, fun w9 hk9 => Both.bothN HNF.out hk9 HX.out.2.2.2.2.2.1 HX.out.2.1 HX.out.2.2.1 HX.out.2.2.2.1 HX.out.2.2.2.2.1 HT.out HT2.out (DkOk.arm HX.out.2.2.2.2.2.1.ok nn HX.out.2.2.2.2.2.2.2.1.n1) (calm_arm D HX.out.2.2.2.2.2.1.calm nn) (play_arm HX.out.2.2.2.2.2.1.play nn) (by unfold RD.arm; split; exact HX.out.2.2.2.2.2.2.2.1.n1; exact HX.out.2.2.2.2.2.1.more) (by have h1 : (D.arm nn).writes = D.writes := by { unfold DkD.arm; split <;> rfl }; rw [h1]; have := HX.out.2.2.2.2.2.1.writes; omega)⟩
        · by_cases n10 : kind = 10
          · subst n10
            go_enter Tryz.func14, Tryz.ntmps14
            go_upto_region 1 with fail
            rw [← HE.out]
            go_wp2_with fail
            refine Calls.mono (off_any HX.out.1) ?_
            rintro e w1 ⟨rfl, ht⟩
            have hrow1 : w1.heap[w.heap.size]? = some (.cells #[.int .i64 10, .string name, .string dest, .slice pa pp.length pc, .int .i64 nn, .slice ka keep.length kc] 41 (0, 0)) := ht.kept.heap HX.out.2.2.2.2.2.2.2.2.2.1 HX.out.2.2.2.2.2.2.2.2.1.1
            have hl1 := lt_of_block hrow1
            have hr1 := both_dk HX.out.2.1 HX.out.2.2.1 ht
            have HT : Hid _ := ht
            have HB : Hid _ := refOff_any hr1.1
            clear ht hrow1 hr1
            go_wp2_with fail
            refine Calls.mono HB.out ?_
            rintro e w2 ⟨rfl, ht2⟩
            have HT2 : Hid _ := ht2
            clear ht2
            go_wp2_with fail
            go_ret
            exact ⟨rfl, fun j hj => (turnedN HNF.out HT.out HT2.out j hj).trans (HVW.out j hj), _, _, fun w9 hk9 => Both.bothN HNF.out hk9 HX.out.2.2.2.2.2.1 HX.out.2.1 HX.out.2.2.1 HX.out.2.2.2.1 HX.out.2.2.2.2.1 HT.out HT2.out (DkOk.off HX.out.2.2.2.2.2.1.ok) (calm_off D HX.out.2.2.2.2.2.1.calm) (play_off HX.out.2.2.2.2.2.1.play HX.out.2.2.2.2.2.1.calm) HX.out.2.2.2.2.2.1.more (by have h1 : D.off.writes = D.writes := by { unfold DkD.off; split <;> rfl }; rw [h1]; have := HX.out.2.2.2.2.2.1.writes; omega)⟩
          · by_cases n11 : kind = 11
            · subst n11
              have HU : Hid (∀ m, Calls Tryz.prog 43 #[.pointer (some ⟨p, 0, none⟩)] (V.drewN m) fun e w' => e = .returned (.bool R.power) ∧ w' = V.drewN m) := fun m => by rw [HX.out.2.2.2.2.2.1.play.on]; exact on_any (HX.out.1.later (below_drewN (Below.refl _ _) m))
              have x1 := HX.out.2.1.cells.2.2.1
              generalize R.power = PW at *
              go_enter Tryz.func14, Tryz.ntmps14
              go_upto_region 1 with fail
              rw [← HE.out]
              go_upto_region 19 with fail
              go_quiet ((go_at_call 43; exact Calls.quiet_of_same (HU.out _)))
              have HBE : Hid (Below V.heap.size V (V.drewN nq)) := below_drewN (Below.refl _ _) nq
              go_wp2_with fail
              go_ret
              exact ⟨rfl, fun j hj => (HBE.out.block j (HNF.out.2.2 j hj).2).trans (HVW.out j hj), _, _, fun w9 hk9 => (HKN.out _ _ HBE.out hk9).mono (Nat.le_succ k)⟩
            · by_cases n12 : kind = 12
              · subst n12
                go_enter Tryz.func14, Tryz.ntmps14
                go_upto_region 1 with fail
                rw [← HE.out]
                go_wp2_with fail
                refine Calls.mono (start_any HX.out.1 HX.out.2.2.2.2.2.1.ok (.slice ka keep.length kc) keep HX.out.2.2.2.2.2.2.2.1.keep (fun hy j e hm => by have h1 := HT4.out.1 j hm; have h2 := (HX.out.2.2.2.2.2.2.2.1.kb hy j e).1; omega)) ?_
                rintro e w1 ⟨rfl, ms1, ht⟩
                have hrow1 : w1.heap[w.heap.size]? = some (.cells #[.int .i64 12, .string name, .string dest, .slice pa pp.length pc, .int .i64 nn, .slice ka keep.length kc] 41 (0, 0)) := ht.kept.heap HX.out.2.2.2.2.2.2.2.2.2.1 HX.out.2.2.2.2.2.2.2.2.1.1
                have hl1 := lt_of_block hrow1
                have x1 := cell_of_row w1 _ 5 _ _ _ hrow1
                have hr1 := both_dk HX.out.2.1 HX.out.2.2.1 ht
                have HT : Hid _ := ht
                have HB : Hid _ := refStart_any hr1.1 HX.out.2.2.2.2.2.2.1 (by rw [HX.out.2.2.2.2.2.1.play.files]; exact HX.out.2.2.2.2.2.1.ok.durs) (.slice ka keep.length kc) keep ((HX.out.2.2.2.2.2.2.2.1.kept ht.kept (fun j hj e => by have := HT4.out.1 j e; have := hj.1; omega)).keep) (fun hy j e hm => by have h1 := HT4.out.2.1 j hm; have h2 := (HX.out.2.2.2.2.2.2.2.1.kb hy j e).1; omega)
                clear ht hrow1 hr1
                go_wp2_with fail
                refine Calls.mono HB.out ?_
                rintro e w2 ⟨rfl, rv1, vs1, ht2⟩
                have HT2 : Hid _ := ht2
                clear ht2
                go_wp2_with fail
                go_ret
                exact ⟨rfl, fun j hj => (turnedN HNF.out HT.out HT2.out j hj).trans (HVW.out j hj), _, _, fun w9 hk9 => Both.bothN HNF.out hk9 HX.out.2.2.2.2.2.1 HX.out.2.1 HX.out.2.2.1 HX.out.2.2.2.1 HX.out.2.2.2.2.1 HT.out HT2.out (DkOk.start HX.out.2.2.2.2.2.1.ok keep) (calm_start D keep) (play_start HX.out.2.2.2.2.2.1.play keep) (by have h1 : (R.start keep).more = R.more := by { unfold RD.start; split <;> rfl }; rw [h1]; exact HX.out.2.2.2.2.2.1.more) (by have h1 : (D.start keep).writes = D.writes := by { unfold DkD.start; split <;> rfl }; rw [h1]; have := HX.out.2.2.2.2.2.1.writes; omega)⟩
              · by_cases n13 : kind = 13
                · subst n13
                  have HU : Hid (∀ m, Calls Tryz.prog 45 #[.pointer (some ⟨p, 0, none⟩)] (V.drewN m) fun e w' => e = .returned (.int .i64 R.done) ∧ w' = V.drewN m) := fun m => by rw [HX.out.2.2.2.2.2.1.play.done]; exact dWrites_any (HX.out.1.later (below_drewN (Below.refl _ _) m))
                  have x1 := HX.out.2.1.cells.2.2.2.2.2
                  generalize R.done = DN at *
                  go_enter Tryz.func14, Tryz.ntmps14
                  go_upto_region 1 with fail
                  rw [← HE.out]
                  go_upto_region 25 with fail
                  go_quiet ((go_at_call 45; exact Calls.quiet_of_same (HU.out _)))
                  have HBE : Hid (Below V.heap.size V (V.drewN nq)) := below_drewN (Below.refl _ _) nq
                  go_wp2_with fail
                  go_ret
                  exact ⟨rfl, fun j hj => (HBE.out.block j (HNF.out.2.2 j hj).2).trans (HVW.out j hj), _, _, fun w9 hk9 => (HKN.out _ _ HBE.out hk9).mono (Nat.le_succ k)⟩
                · by_cases n14 : kind = 14
                  · subst n14
                    go_enter Tryz.func14, Tryz.ntmps14
                    go_upto_region 1 with fail
                    rw [← HE.out]
                    go_wp2_with fail
                    refine Calls.mono (dImage_any HX.out.1 HX.out.2.2.2.2.2.1.ok) ?_
                    rintro e w1 ⟨rfl, ⟨vs1, hn1⟩, hb1⟩
                    have HB : Hid _ := refImage_any (HX.out.2.1.later hb1) HX.out.2.2.2.2.2.2.1
                    have HR1 : Hid _ := And.intro hn1 hb1
                    have hl1 := Nat.lt_of_lt_of_le hlq hb1.size
                    clear hn1 hb1
                    go_wp2_with fail
                    refine Calls.mono HB.out ?_
                    rintro e w2 ⟨v2, us, rfl, hn2, hb2⟩
                    have HBE : Hid (Below V.heap.size V w2) := Below.step HR1.out.2 hb2
                    have HEQ : Hid (Calls Tryz.prog 9 #[.slice (some ⟨V.heap.size, 0, none⟩) D.files.length D.files.length, v2] w2 fun e w' => e = .returned (.bool true) ∧ ∃ n, w' = w2.drewN n) := by
                      rw [HX.out.2.2.2.2.2.1.play.files] at hn2
                      have h7 := HR1.out.1.kept (Below.kept hb2) (fun j e => .inr e)
                      exact eqFiles_like h7 hn2 HX.out.2.2.2.2.2.1.ok.few
                    clear hn2 hb2 HB HR1
                    go_wp2_with fail
                    refine Calls.mono HEQ.out ?_
                    rintro e w3 ⟨rfl, m3, hw3⟩
                    have HBE : Hid (Below V.heap.size V w3) := by rw [hw3]; exact below_drewN HBE.out m3
                    clear hw3 HEQ
                    go_wp2_with fail
                    go_ret
                    exact ⟨rfl, fun j hj => (HBE.out.block j (HNF.out.2.2 j hj).2).trans (HVW.out j hj), _, _, fun w9 hk9 => (HKN.out _ _ HBE.out hk9).mono (Nat.le_succ k)⟩
                  · have HAW : Hid _ := act_anyN HX.out.1 HX.out.2.2.2.2.2.1.ok (by have := HX.out.2.2.2.2.2.1.writes; omega) ⟨kind, name, dest, pa, pc, pp, nn, ka, kc, keep⟩ (Btw wr.heap.size w.heap.size) HX.out.2.2.2.2.2.2.2.1 HPL.out (fun j hj => ⟨by have := HT4.out.2.2.2; have := hj.2; omega, fun e => by have := HT4.out.1 j e; have := hj.1; omega⟩)
                    have e6 : (kind == 6) = false := by simpa using n6
                    have e7 : (kind == 7) = false := by simpa using n7
                    have e8 : (kind == 8) = false := by simpa using n8
                    have e9 : (kind == 9) = false := by simpa using n9
                    have e10 : (kind == 10) = false := by simpa using n10
                    have e11 : (kind == 11) = false := by simpa using n11
                    have e12 : (kind == 12) = false := by simpa using n12
                    have e13 : (kind == 13) = false := by simpa using n13
                    have e14 : (kind == 14) = false := by simpa using n14
                    go_enter Tryz.func14, Tryz.ntmps14
                    go_upto_region 1 with fail
                    rw [← HE.out]
                    go_wp2_with fail
                    refine Calls.mono HAW.out ?_
                    rintro e w1 ⟨rfl, fv1, ms1, ht⟩
                    have hrow1 : w1.heap[w.heap.size]? = some (.cells #[.int .i64 kind, .string name, .string dest, .slice pa pp.length pc, .int .i64 nn, .slice ka keep.length kc] 41 (0, 0)) := ht.kept.heap HX.out.2.2.2.2.2.2.2.2.2.1 HX.out.2.2.2.2.2.2.2.2.1.1
                    have hl1 := lt_of_block hrow1
                    have x0 := cell_of_row w1 _ 0 _ _ _ hrow1
                    have x1 := cell_of_row w1 _ 1 _ _ _ hrow1
                    have x2 := cell_of_row w1 _ 2 _ _ _ hrow1
                    have x3 := cell_of_row w1 _ 3 _ _ _ hrow1
                    have x4 := cell_of_row w1 _ 4 _ _ _ hrow1
                    have x5 := cell_of_row w1 _ 5 _ _ _ hrow1
                    have hr1 := both_dk HX.out.2.1 HX.out.2.2.1 ht
                    have HT : Hid _ := ht
                    have HB : Hid _ := want_anyN hr1.1 HX.out.2.2.2.2.2.2.1 ⟨kind, name, dest, pa, pc, pp, nn, ka, kc, keep⟩ (Btw wr.heap.size w.heap.size) (HX.out.2.2.2.2.2.2.2.1.kept ht.kept (fun j hj e => by have := HT4.out.1 j e; have := hj.1; omega)) HPL.out (fun j hj => ⟨by have := HT4.out.2.2.2; have := hj.2; have := ht.kept.size; omega, fun e => by have := HT4.out.2.1 j e; have := hj.1; omega⟩)
                    have hpw := play_want HX.out.2.2.2.2.2.1.play HX.out.2.2.2.2.2.1.calm ⟨kind, name, dest, pa, pc, pp, nn, ka, kc, keep⟩
                    have HPW : Hid _ := hpw
                    have heq : ((actK D ⟨kind, name, dest, pa, pc, pp, nn, ka, kc, keep⟩).1 == (wantK R ⟨kind, name, dest, pa, pc, pp, nn, ka, kc, keep⟩).1) = true := by rw [hpw.1]; simp
                    have hex : (wantK R ⟨kind, name, dest, pa, pc, pp, nn, ka, kc, keep⟩).1 = (actK D ⟨kind, name, dest, pa, pc, pp, nn, ka, kc, keep⟩).1 := hpw.1
                    clear ht hrow1 hr1 hpw heq HAW
                    go_wp2_with fail
                    refine Calls.mono HB.out ?_
                    rintro e w2 ⟨rfl, rv1, vs1, ht2⟩
                    have HT2 : Hid _ := ht2
                    clear ht2 HB
                    rw [hex]
                    generalize hE : (actK D ⟨kind, name, dest, pa, pc, pp, nn, ka, kc, keep⟩).1 = E
                    clear hE
                    go_wp2_with fail
                    go_ret
                    exact ⟨rfl, fun j hj => (turnedN HNF.out HT.out HT2.out j hj).trans (HVW.out j hj), _, _, fun w9 hk9 => Both.bothN HNF.out hk9 HX.out.2.2.2.2.2.1 HX.out.2.1 HX.out.2.2.1 HX.out.2.2.2.1 HX.out.2.2.2.2.1 HT.out HT2.out (actK_ok HX.out.2.2.2.2.2.1.ok _) HPW.out.2.2 HPW.out.2.1 (Int.le_trans (wantK_more _ _) HX.out.2.2.2.2.2.1.more) (by have := actK_writes D ⟨kind, name, dest, pa, pc, pp, nn, ka, kc, keep⟩; have := HX.out.2.2.2.2.2.1.writes; omega)⟩

end Go.Proofs.YtdhnbgeijfgfaaaGreatDoor
