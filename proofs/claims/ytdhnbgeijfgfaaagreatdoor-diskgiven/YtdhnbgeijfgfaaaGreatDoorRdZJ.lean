/- The document's disk: a writing call of the law's; beside the program's. -/
import Derived.Test.YtdhnbgeijfgfaaaGreatDoorRdYJ
import Derived.Test.YtdhnbgeijfgfaaaGreatDoorDkTJ
namespace Go.Proofs.YtdhnbgeijfgfaaaGreatDoor
open Go.RowKit Go.Shelf
set_option maxRecDepth 8000

def wantK (R : RD) (o : OpK) : Int × RD :=
  if o.kind = 1 then R.act (R.errA o.name o.p.length) (appF R.files o.name o.p)
  else if o.kind = 2 then R.act (R.errO o.name) (updF R.files o.name durF)
  else if o.kind = 3 then R.act (R.errC o.name o.n) (updF R.files o.name (cutF o.n.toNat))
  else if o.kind = 4 then R.act (R.errR o.name o.dest) (renF R.files o.name o.dest)
  else if o.kind = 5 then R.act (R.errO o.name) (R.files.eraseIdx (dropI R.files o.name))
  else (0, R)

/-- A writing call turns both alike. -/
theorem play_want {D : DkD} {R : RD} (h : Play D R) (hc : Calm D) (o : OpK) : (wantK R o).1 = (actK D o).1 ∧ Play (actK D o).2 (wantK R o).2 ∧ Calm (actK D o).2 := by
  have eO : ∀ n, R.errO n = D.errO n := fun n => by unfold RD.errO DkD.errO; rw [h.on, h.files]
  have eA : ∀ n k, R.errA n k = D.errA n k := fun n k => by unfold RD.errA DkD.errA; rw [h.on, h.files, h.room]
  have eC : ∀ n k, R.errC n k = D.errC n k := fun n k => by unfold RD.errC DkD.errC; rw [eO, h.files]
  have eR : ∀ a b, R.errR a b = D.errR a b := fun a b => by unfold RD.errR DkD.errR; rw [h.on, h.files]
  unfold wantK actK
  split
  · rw [eA, h.files]; exact play_act h hc _ _ (fun e => (errA_zero e).1)
  · split
    · rw [eO, h.files]; exact play_act h hc _ _ (fun e => (errO_zero e).1)
    · split
      · rw [eC, h.files]; exact play_act h hc _ _ (fun e => (errO_zero (errC_zero e).1).1)
      · split
        · rw [eR, h.files]; exact play_act h hc _ _ (fun e => (errR_zero e).1)
        · split
          · rw [eO, h.files]; exact play_act h hc _ _ (fun e => (errO_zero e).1)
          · exact ⟨rfl, h, hc⟩

theorem RD.write_more (R : RD) : R.write.2.more ≤ R.more := by
  unfold RD.write
  split
  · split
    · exact Int.le_refl _
    · show R.more - 1 ≤ R.more; omega
  · exact Int.le_refl _

theorem RD.act_more (R : RD) (e : Int) (fs : List FiD) : (R.act e fs).2.more ≤ R.more := by
  unfold RD.act
  split
  · split
    · exact R.write_more
    · exact R.write_more
  · exact Int.le_refl _

theorem wantK_more (R : RD) (o : OpK) : (wantK R o).2.more ≤ R.more := by
  unfold wantK
  repeat' split
  all_goals first | exact R.act_more _ _ | exact Int.le_refl _

/-- The program's disk and the document's, side by side. -/
structure Both (w0 w : World) (p q : Nat) (D : DkD) (R : RD) (k : Nat) : Prop where
  ex : ∃ fv ms rv vs, IsDk w p fv ms D ∧ IsRd w q rv vs R ∧ (∀ j ∈ foot p fv ms, j ∉ rfoot q rv vs) ∧ (∀ j ∈ foot p fv ms, w0.heap.size ≤ j) ∧ (∀ j ∈ rfoot q rv vs, w0.heap.size ≤ j)
  ok : DkOk D
  calm : Calm D
  play : Play D R
  more : R.more ≤ 9223372036854775807
  writes : D.writes ≤ k
  bel : Below w0.heap.size w0 w

theorem Both.rdOk {w0 w : World} {p q : Nat} {D : DkD} {R : RD} {k : Nat} (h : Both w0 w p q D R k) (hk : k ≤ 4611686018427387904) : RdOk R := by
  refine ⟨by rw [h.play.files]; exact h.ok.rise, by rw [h.play.files]; exact h.ok.few, ?_, fun e => ?_, h.more, by rw [h.play.done]; exact h.ok.w0, by rw [h.play.done]; have := h.writes; omega⟩
  · rw [h.play.files]
    have := h.ok.fits
    have := h.ok.r1
    omega
  · rcases h.play.arm with ⟨e1, _⟩ | ⟨_, _, e3⟩
    · rw [e1] at e; cases e
    · exact e3

theorem Both.later {w0 w w' : World} {p q : Nat} {D : DkD} {R : RD} {k : Nat} (h : Both w0 w p q D R k) (hb : Below w.heap.size w w') : Both w0 w' p q D R k := by
  obtain ⟨fv, ms, rv, vs, h1, h2, h3, h4, h5⟩ := h.ex
  exact ⟨⟨fv, ms, rv, vs, h1.later hb, h2.later hb, h3, h4, h5⟩, h.ok, h.calm, h.play, h.more, h.writes, Below.step h.bel hb⟩

set_option maxHeartbeats 1000000 in
theorem want_any {w : World} {p : Nat} {fv : Value} {vs : List Value} {R : RD} (h : IsRd w p fv vs R) (ok : RdOk R) (o : OpK) (n : Nat) (ho : GoodOpK w n o) (hpl : o.p.length ≤ 100000000000) (hn : ∀ k, k < n → k < w.heap.size ∧ k ∉ rfoot p fv vs) :
    Calls Tryz.prog 49 #[.pointer (some ⟨p, 0, none⟩), .agg o.cells.toArray] w (RctTo w p fv vs (wantK R o)) := by
  obtain ⟨V, eV⟩ : ∃ V, V = w.alloc (.cells o.cells.toArray 41) := ⟨_, rfl⟩
  have hbV : Below w.heap.size w V := by rw [eV]; exact one_allocK _ _
  have hV : IsRd V p fv vs R := h.later hbV
  have hrow : V.heap[w.heap.size]? = some (.cells o.cells.toArray 41 (0, 0)) := by rw [eV]; exact heap_alloc_new w _
  have hszV : w.heap.size < V.heap.size := lt_of_block hrow
  have d0 : V.cell? ⟨w.heap.size, 0, none⟩ = some (.int .i64 o.kind) := cell_of_row V _ 0 _ _ _ hrow
  have d1 : V.cell? ⟨w.heap.size, 1, none⟩ = some (.string o.name) := cell_of_row V _ 1 _ _ _ hrow
  have d2 : V.cell? ⟨w.heap.size, 2, none⟩ = some (.string o.dest) := cell_of_row V _ 2 _ _ _ hrow
  have d3 : V.cell? ⟨w.heap.size, 3, none⟩ = some (.slice o.pa o.p.length o.pc) := cell_of_row V _ 3 _ _ _ hrow
  have d4 : V.cell? ⟨w.heap.size, 4, none⟩ = some (.int .i64 o.n) := cell_of_row V _ 4 _ _ _ hrow
  have HA : Hid _ := refAppend_any hV ok o.name ho.nl o.pv o.p (ho.see.keptN (Below.kept hbV) (fun hy k e e' => by have := (hn k (ho.pb hy k e)).1; omega)) (fun hy k e => ⟨by have := (hn k (ho.pb hy k e)).1; omega, (hn k (ho.pb hy k e)).2⟩) hpl
  have HS : Hid _ := refSync_any hV ok o.name ho.nl
  have HC : Hid _ := refCut_any hV ok o.name ho.nl o.n
  have HR : Hid _ := refRename_any hV ok o.name o.dest ho.nl ho.dl
  have HM : Hid _ := refRemove_any hV ok o.name ho.nl
  have HB : Hid _ := hbV
  have HI : Hid _ := h
  have HE : Hid _ := eV
  obtain ⟨r, hr⟩ : ∃ r, r = wantK R o := ⟨_, rfl⟩
  rw [← hr]
  have HRR : Hid _ := hr
  unfold wantK at HRR
  have hl := lt_of_block h.row
  have hlV := lt_of_block hV.row
  clear h ok ho hn hbV hV hrow eV hr hpl
  unfold OpK.pv at HA
  obtain ⟨kind, name, dest, pa, pc, pp, nn, ka, kc, keep⟩ := o
  simp only [OpK.cells] at *
  by_cases h1 : kind = 1
  · subst h1
    rw [if_pos rfl] at HRR
    clear HS HC HR HM
    go_enter Tryz.func49, Tryz.ntmps49
    go_upto_region 1 with fail
    rw [← HE.out]
    go_wp2_with fail
    refine Calls.mono HA.out ?_
    rintro e w1 ⟨rfl, fv1, vs1, ht⟩
    have H1 : Hid _ := ht
    clear ht HA
    go_wp2_with fail
    go_ret
    exact ⟨by rw [HRR.out]; rfl, fv1, vs1, by rw [HRR.out]; exact RdTo.after HB.out H1.out⟩
  · by_cases h2 : kind = 2
    · subst h2
      rw [if_neg (by decide), if_pos rfl] at HRR
      clear HA HC HR HM h1
      go_enter Tryz.func49, Tryz.ntmps49
      go_upto_region 1 with fail
      rw [← HE.out]
      go_wp2_with fail
      refine Calls.mono HS.out ?_
      rintro e w1 ⟨rfl, fv1, vs1, ht⟩
      have H1 : Hid _ := ht
      clear ht HS
      go_wp2_with fail
      go_ret
      exact ⟨by rw [HRR.out]; rfl, fv1, vs1, by rw [HRR.out]; exact RdTo.after HB.out H1.out⟩
    · by_cases h3 : kind = 3
      · subst h3
        rw [if_neg (by decide), if_neg (by decide), if_pos rfl] at HRR
        clear HA HS HR HM h1 h2
        go_enter Tryz.func49, Tryz.ntmps49
        go_upto_region 1 with fail
        rw [← HE.out]
        go_wp2_with fail
        refine Calls.mono HC.out ?_
        rintro e w1 ⟨rfl, fv1, vs1, ht⟩
        have H1 : Hid _ := ht
        clear ht HC
        go_wp2_with fail
        go_ret
        exact ⟨by rw [HRR.out]; rfl, fv1, vs1, by rw [HRR.out]; exact RdTo.after HB.out H1.out⟩
      · by_cases h4 : kind = 4
        · subst h4
          rw [if_neg (by decide), if_neg (by decide), if_neg (by decide), if_pos rfl] at HRR
          clear HA HS HC HM h1 h2 h3
          go_enter Tryz.func49, Tryz.ntmps49
          go_upto_region 1 with fail
          rw [← HE.out]
          go_wp2_with fail
          refine Calls.mono HR.out ?_
          rintro e w1 ⟨rfl, fv1, vs1, ht⟩
          have H1 : Hid _ := ht
          clear ht HR
          go_wp2_with fail
          go_ret
          exact ⟨by rw [HRR.out]; rfl, fv1, vs1, by rw [HRR.out]; exact RdTo.after HB.out H1.out⟩
        · by_cases h5 : kind = 5
          · subst h5
            rw [if_neg (by decide), if_neg (by decide), if_neg (by decide), if_neg (by decide), if_pos rfl] at HRR
            clear HA HS HC HR h1 h2 h3 h4
            go_enter Tryz.func49, Tryz.ntmps49
            go_upto_region 1 with fail
            rw [← HE.out]
            go_wp2_with fail
            refine Calls.mono HM.out ?_
            rintro e w1 ⟨rfl, fv1, vs1, ht⟩
            have H1 : Hid _ := ht
            clear ht HM
            go_wp2_with fail
            go_ret
            exact ⟨by rw [HRR.out]; rfl, fv1, vs1, by rw [HRR.out]; exact RdTo.after HB.out H1.out⟩
          · rw [if_neg h1, if_neg h2, if_neg h3, if_neg h4, if_neg h5] at HRR
            clear HA HS HC HR HM
            have e1 : (kind == 1) = false := by simpa using h1
            have e2 : (kind == 2) = false := by simpa using h2
            have e3 : (kind == 3) = false := by simpa using h3
            have e4 : (kind == 4) = false := by simpa using h4
            have e5 : (kind == 5) = false := by simpa using h5
            go_enter Tryz.func49, Tryz.ntmps49
            go_upto_region 1 with fail
            rw [← HE.out]
            go_wp2_with fail
            go_ret
            exact ⟨by rw [HRR.out]; rfl, _, _, by rw [HRR.out]; exact (RdTo.refl HI.out).then HB.out⟩
end Go.Proofs.YtdhnbgeijfgfaaaGreatDoor
