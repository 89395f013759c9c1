/- txn.Same and EqTxn of any two transactions: true where the data are the same, and there alone. -/
import Derived.Test.YtoeialngbbfoeaaGreatDoorChCJ
import Derived.Test.YtoeialngbbfoeaaGreatDoorEqHJ
import Derived.Test.YtoeialngbbfoeaaGreatDoorWrTJ
namespace Go.Proofs.YtoeialngbbfoeaaGreatDoor
open Go.RowKit
set_option maxRecDepth 8000

set_option maxHeartbeats 2000000 in
theorem same_anyT (t t' : TxD) (cs ds : List Value) (w : World) (hcs : SeesTx w cs t) (hds : SeesTx w ds t') (hg : t.rq.good) (hg' : t'.rq.good) :
    Calls Tryz.prog 7 #[.agg cs.toArray, .agg ds.toArray] w fun e w' => ∃ b : Bool, e = .returned (.bool b) ∧ (b = true ↔ t = t') ∧ Below w.heap.size w w' := by
  obtain ⟨rc, rfl, hr⟩ := hcs
  obtain ⟨rd, rfl, hr'⟩ := hds
  have HX : Hid (∀ W : World, Below w.heap.size w W → Calls Tryz.prog 19 #[.agg rc.toArray, .agg rd.toArray] W fun e w' => ∃ b : Bool, e = .returned (.bool b) ∧ (b = true ↔ t.rq = t'.rq) ∧ Below W.heap.size W w') := fun W hW =>
    sameRequest_any t.rq t'.rq rc rd W (hr.later hW (Nat.le_refl _)) (hr'.later hW (Nat.le_refl _)) hg hg'
  obtain ⟨ep, tn, srv, boot, num, rq⟩ := t
  obtain ⟨ep', tn', srv', boot', num', rq'⟩ := t'
  obtain ⟨q0, q1, d0, d1, d2, a0, a1, a2, q4, q5, q6, q7, q8, e0, e1, e2, o0, o1, o2, rfl⟩ := rq_forms hr
  obtain ⟨p0, p1, c0, c1, c2, b0, b1, b2, p4, p5, p6, p7, p8, f0, f1, f2, n0, n1, n2, rfl⟩ := rq_forms hr'
  have hB := two_alloc w
  have hg1 : Tryz.prog.eqGuardType Tryz.prog.depth 24 = false := by kernel_rfl
  have hg2 : Tryz.prog.eqGuardType Tryz.prog.depth 27 = false := by kernel_rfl
  clear hr hr' hg hg'
  simp only [txHead, List.cons_append, List.nil_append] at HX ⊢
  by_cases h1 : ep = ep' ∧ tn = tn'
  case neg =>
    have hq : ∀ w, (binOp .eql 24 (.agg #[.int .u32 ep, .int .u32 tn]) (.agg #[.int .u32 ep', .int .u32 tn'])).run Tryz.prog w = .ok (.bool false) w := fun w => by rw [eqZx, decide_eq_false h1]
    have HN : Hid (TxD.mk ep tn srv boot num rq ≠ TxD.mk ep' tn' srv' boot' num' rq') := fun h => by
      simp only [TxD.mk.injEq] at h
      exact h1 ⟨h.1, h.2.1⟩
    clear h1
    go_enter Tryz.func7, Tryz.ntmps7
    go_wp2_with fail
    go_ret
    exact ⟨false, rfl, ⟨fun h => (by cases h), fun h => absurd h HN.out⟩, hB _ _⟩
  have hq : ∀ w, (binOp .eql 24 (.agg #[.int .u32 ep, .int .u32 tn]) (.agg #[.int .u32 ep', .int .u32 tn'])).run Tryz.prog w = .ok (.bool true) w := fun w => by rw [eqZx, decide_eq_true h1]
  have Hh1 : Hid _ := h1
  clear h1
  by_cases h2 : srv = srv' ∧ boot = boot' ∧ num = num'
  case neg =>
    have hq2 : ∀ w, (binOp .eql 27 (.agg #[.int .i8 srv, .int .u32 boot, .int .i64 num]) (.agg #[.int .i8 srv', .int .u32 boot', .int .i64 num'])).run Tryz.prog w = .ok (.bool false) w := fun w => by rw [eqOrV, decide_eq_false h2]
    have HN : Hid (TxD.mk ep tn srv boot num rq ≠ TxD.mk ep' tn' srv' boot' num' rq') := fun h => by
      simp only [TxD.mk.injEq] at h
      exact h2 ⟨h.2.2.1, h.2.2.2.1, h.2.2.2.2.1⟩
    clear h2
    go_enter Tryz.func7, Tryz.ntmps7
    go_wp2_with fail
    go_ret
    exact ⟨false, rfl, ⟨fun h => (by cases h), fun h => absurd h HN.out⟩, hB _ _⟩
  have hq2 : ∀ w, (binOp .eql 27 (.agg #[.int .i8 srv, .int .u32 boot, .int .i64 num]) (.agg #[.int .i8 srv', .int .u32 boot', .int .i64 num'])).run Tryz.prog w = .ok (.bool true) w := fun w => by rw [eqOrV, decide_eq_true h2]
  have Hh2 : Hid _ := h2
  clear h2
  go_enter Tryz.func7, Tryz.ntmps7
  go_wp2_with fail
  refine (HX.out _ (hB _ _)).mono ?_
  rintro _ w1 ⟨b, rfl, hb, bb⟩
  have HB : Hid (Below w.heap.size w w1 ∧ (b = true ↔ rq = rq')) := ⟨(hB _ _).trans (bb.mono (hB _ _).size), hb⟩
  clear hb bb hB HX
  go_wp2_with fail
  go_ret
  refine ⟨b, rfl, ?_, HB.out.1⟩
  obtain ⟨rfl, rfl⟩ := Hh1.out
  obtain ⟨rfl, rfl, rfl⟩ := Hh2.out
  rw [HB.out.2]
  simp only [TxD.mk.injEq, true_and]

/-- EqTxn of any two transactions. -/
theorem eqTxn_anyT (t t' : TxD) (cs ds : List Value) (w : World) (hcs : SeesTx w cs t) (hds : SeesTx w ds t') :
    Calls Tryz.prog 9 #[.agg cs.toArray, .agg ds.toArray] w fun e w' => ∃ b : Bool, e = .returned (.bool b) ∧ (b = true ↔ t = t') ∧ Below w.heap.size w w' := by
  by_cases h : t = t'
  · subst h
    refine (eqTxn_same cs ds t w hcs hds).mono ?_
    rintro e w' ⟨rfl, hb⟩
    exact ⟨true, rfl, ⟨fun _ => rfl, fun _ => rfl⟩, hb⟩
  · refine (eqTxn_sound t t' cs ds w hcs hds).mono ?_
    rintro e w' ⟨b, rfl, hb, hw⟩
    exact ⟨b, rfl, ⟨hb, fun e => absurd e h⟩, hw⟩
end Go.Proofs.YtoeialngbbfoeaaGreatDoor

/- A round of the copy of a request's inner ones. No Go function is walked here. -/
namespace Go.Proofs.YtoeialngbbfoeaaGreatDoor
open Go.RowKit
set_option maxRecDepth 8000

theorem row_shape {w : World} {base : Nat} {t : TypeId} {z : Nat} {v : Value} {n : Nat} {xs : List Value} (h : w.ownsRow base t z v n xs) : ∃ ao n c, v = .slice ao n c := by
  rcases h.2 with ⟨rfl, _⟩ | ⟨g, cap, cur, rfl, _⟩
  · exact ⟨_, _, _, rfl⟩
  · exact ⟨_, _, _, rfl⟩

/-- A round of the copy of a request's inner ones: what stands behind it. -/
theorem copy_round {w U wr w5 w6 : World} {B k n : Nat} {t : TypeId} {IN cs : Array Value} {ops : Fin n → Rq} {vo v' : Value} {es : List (List Value)} {ds : List Value} {o : Obj}
    (hB : w.heap.size + 3 ≤ B) (hBw : B ≤ wr.heap.size) (hk : k < n) (hes : es.length = k) (hC : CS w wr IN cs) (hK : Kept U wr (fun j => j = w.heap.size + 2 ∨ B ≤ j)) (hvo : ∀ q, vo.ownBlock = some q → B ≤ q ∧ q < wr.heap.size)
    (hel : ∀ j (hj : j < es.length) (hn : j < n), RqIn wr (fun q => B ≤ q ∧ q < wr.heap.size ∧ vo.ownBlock ≠ some q) es[j] (ops ⟨j, hn⟩))
    (b5 : Below wr.heap.size wr w5) (hr5 : RqIn w5 (fun q => wr.heap.size ≤ q ∧ q < w5.heap.size) ds (ops ⟨k, hk⟩))
    (hgrow : (w5.alloc o).grownBy w6 vo.ownBlock) (hat : v'.ownBlock = vo.ownBlock ∨ v'.ownBlock = some (w5.alloc o).heap.size) (hown' : w6.ownsRow B t 11 v' (k + 1) (es.flatten ++ ds)) :
    CS w (w6.setCell ⟨w.heap.size + 2, 10, none⟩ v') IN (cs.setIfInBounds 10 v') ∧ Kept U (w6.setCell ⟨w.heap.size + 2, 10, none⟩ v') (fun j => j = w.heap.size + 2 ∨ B ≤ j) ∧
      (w6.setCell ⟨w.heap.size + 2, 10, none⟩ v').ownsRow B t 11 v' (k + 1) (es ++ [ds]).flatten ∧
      ∀ j (hj : j < (es ++ [ds]).length) (hn : j < n), RqIn (w6.setCell ⟨w.heap.size + 2, 10, none⟩ v') (fun q => B ≤ q ∧ q < (w6.setCell ⟨w.heap.size + 2, 10, none⟩ v').heap.size ∧ v'.ownBlock ≠ some q) (es ++ [ds])[j] (ops ⟨j, hn⟩) := by
  have h5 := b5.size
  have h6 := hgrow.size
  simp at h6
  have hsz : (w6.setCell ⟨w.heap.size + 2, 10, none⟩ v').heap.size = w6.heap.size := by simp [World.setCell]
  have hat' : ∀ q, v'.ownBlock = some q → (vo.ownBlock = some q) ∨ q = w5.heap.size + 1 - 0 := fun q hq => by
    rcases hat with h | h
    · exact .inl (by rw [← h]; exact hq)
    · rw [hq] at h; simp at h; exact .inr (by omega)
  have K5 : Kept w5 w6 (fun q => vo.ownBlock = some q) := ((Kept.refl w5 (fun q => vo.ownBlock = some q)).alloc o).grown hgrow (fun q _ h => h)
  have K6 : Kept w6 (w6.setCell ⟨w.heap.size + 2, 10, none⟩ v') (fun q => q = w.heap.size + 2) := (Kept.refl w6 (fun q => q = w.heap.size + 2)).setCell _ _ (fun _ => rfl)
  have Kr : Kept wr w6 (fun q => wr.heap.size ≤ q ∨ vo.ownBlock = some q) := ((Below.kept b5).mono (fun q _ h => Or.inl h)).trans K5 (fun q _ h => .inr h)
  have Kw : Kept wr (w6.setCell ⟨w.heap.size + 2, 10, none⟩ v') (fun q => wr.heap.size ≤ q ∨ vo.ownBlock = some q ∨ q = w.heap.size + 2) := (Kr.mono (fun q _ h => h.elim .inl (fun h => .inr (.inl h)))).trans K6 (fun q _ h => .inr (.inr h))
  have K56 : Kept w5 (w6.setCell ⟨w.heap.size + 2, 10, none⟩ v') (fun q => vo.ownBlock = some q ∨ q = w.heap.size + 2) := (K5.mono (fun q _ h => Or.inl h)).trans K6 (fun q _ h => .inr h)
  refine ⟨(hC.kept Kr (fun q h => ?_)).set 10 v', hK.trans Kw (fun q _ h => ?_), ?_, fun j hj hn => ?_⟩
  · rcases h with h | h
    · omega
    · have := hvo q h; omega
  · rcases h with h | h | h
    · exact .inr (by omega)
    · exact .inr (hvo q h).1
    · exact .inl h
  · rw [List.flatten_append]
    simp only [List.flatten_cons, List.flatten_nil, List.append_nil]
    exact ownsRow_kept hown' K6 (fun q hq e => by have := (hown'.lt q hq).1; omega)
  · by_cases hjk : j < es.length
    · rw [List.getElem_append_left hjk]
      refine RqIn.kept Kw (fun q hq => ⟨fun h => ?_, hq.1, by omega, fun e => ?_⟩) (hel j hjk hn)
      · rcases h with h | h | h
        · omega
        · exact hq.2.2 h
        · omega
      · rcases hat' q e with h | h
        · exact hq.2.2 h
        · omega
    · have hj' : j = k := by simp at hj; omega
      subst hj'
      have hget : (es ++ [ds])[j] = ds := by
        rw [List.getElem_append_right (by omega)]
        simp [hes]
      rw [hget]
      refine RqIn.kept K56 (fun q hq => ⟨fun h => ?_, by omega, by omega, fun e => ?_⟩) hr5
      · rcases h with h | h
        · have := hvo q h; omega
        · omega
      · rcases hat' q e with h | h
        · have := hvo q h; omega
        · omega

end Go.Proofs.YtoeialngbbfoeaaGreatDoor
