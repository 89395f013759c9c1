/- The document's may and the program's bits agree, within a Multi. No Go function is walked here. -/
import Derived.Test.YtldcbabgommghaaGreatDoorWdQbJ
import Derived.Test.YtldcbabgommghaaGreatDoorPkAJ
import Derived.Test.YtldcbabgommghaaGreatDoorWdPJ
import Derived.Test.YtldcbabgommghaaGreatDoorCopyTJ
import Derived.Deep.RegionHeld
namespace Go.Proofs.YtldcbabgommghaaGreatDoor
open Go.RowKit
set_option maxRecDepth 8000

set_option maxHeartbeats 1000000 in
theorem inF_1 (f : RqF) (n : Nat) (y : Bool) (hy : n = 0 → y = true) (h : f.kind = 1) : (flatOk 5 320 f n && (bdOk f && (decide ((n : Int) ≤ 8) && y))) = (decide (f.ses = 0) && decide (f.who.length = 0) && mayF f n) := by
  obtain ⟨kind, path, data, acl, ver, eph, seq, ses, tmo, who⟩ := f
  simp only at h
  subst h
  have e1 : nms 5 320 1 = 55 := by decide +kernel
  have e2 : need 1 = 0 := by decide +kernel
  have e3 : (lt4 1).toList.isEmpty = false := by decide +kernel
  have hp : hasB (lt4 1) 112 = true := by decide +kernel
  have hd : hasB (lt4 1) 100 = true := by decide +kernel
  have ha : hasB (lt4 1) 97 = true := by decide +kernel
  have hv : hasB (lt4 1) 118 = false := by decide +kernel
  have hf : hasB (lt4 1) 102 = true := by decide +kernel
  have hs : hasB (lt4 1) 115 = true := by decide +kernel
  have ht : hasB (lt4 1) 116 = false := by decide +kernel
  have hw : hasB (lt4 1) 119 = true := by decide +kernel
  have ho : hasB (lt4 1) 111 = false := by decide +kernel
  unfold mayF mayB flatOk bdOk fz
  simp only [e1, e2, e3, fz_55, nd_0, hp, hd, ha, hv, hf, hs, ht, hw, ho]
  generalize aclOk acl = x1
  generalize whoOk who = x2
  generalize path.toList.isEmpty = x3
  generalize path.size = x4
  generalize data.length = x5
  generalize acl.length = x6
  generalize who.length = x7
  rw [Bool.eq_iff_iff]
  by_cases hn : n = 0
  · have hy1 := hy hn
    clear hy
    subst hn hy1
    cases x1 <;> cases x2 <;> cases x3 <;> cases eph <;> cases seq <;> simp <;> omega
  · clear hy
    cases x1 <;> cases x2 <;> cases x3 <;> cases eph <;> cases seq <;> cases y <;> simp <;> omega

set_option maxHeartbeats 1000000 in
theorem inF_2 (f : RqF) (n : Nat) (y : Bool) (hy : n = 0 → y = true) (h : f.kind = 2) : (flatOk 5 320 f n && (bdOk f && (decide ((n : Int) ≤ 8) && y))) = (decide (f.ses = 0) && decide (f.who.length = 0) && mayF f n) := by
  obtain ⟨kind, path, data, acl, ver, eph, seq, ses, tmo, who⟩ := f
  simp only at h
  subst h
  have e1 : nms 5 320 2 = 9 := by decide +kernel
  have e2 : need 2 = 0 := by decide +kernel
  have e3 : (lt4 2).toList.isEmpty = false := by decide +kernel
  have hp : hasB (lt4 2) 112 = true := by decide +kernel
  have hd : hasB (lt4 2) 100 = false := by decide +kernel
  have ha : hasB (lt4 2) 97 = false := by decide +kernel
  have hv : hasB (lt4 2) 118 = true := by decide +kernel
  have hf : hasB (lt4 2) 102 = false := by decide +kernel
  have hs : hasB (lt4 2) 115 = true := by decide +kernel
  have ht : hasB (lt4 2) 116 = false := by decide +kernel
  have hw : hasB (lt4 2) 119 = true := by decide +kernel
  have ho : hasB (lt4 2) 111 = false := by decide +kernel
  unfold mayF mayB flatOk bdOk fz
  simp only [e1, e2, e3, fz_9, nd_0, hp, hd, ha, hv, hf, hs, ht, hw, ho]
  generalize aclOk acl = x1
  generalize whoOk who = x2
  generalize path.toList.isEmpty = x3
  generalize path.size = x4
  generalize data.length = x5
  generalize acl.length = x6
  generalize who.length = x7
  rw [Bool.eq_iff_iff]
  by_cases hn : n = 0
  · have hy1 := hy hn
    clear hy
    subst hn hy1
    cases x1 <;> cases x2 <;> cases x3 <;> cases eph <;> cases seq <;> simp <;> omega
  · clear hy
    cases x1 <;> cases x2 <;> cases x3 <;> cases eph <;> cases seq <;> cases y <;> simp <;> omega

set_option maxHeartbeats 1000000 in
theorem inF_3 (f : RqF) (n : Nat) (y : Bool) (hy : n = 0 → y = true) (h : f.kind = 3) : (flatOk 5 320 f n && (bdOk f && (decide ((n : Int) ≤ 8) && y))) = (decide (f.ses = 0) && decide (f.who.length = 0) && mayF f n) := by
  obtain ⟨kind, path, data, acl, ver, eph, seq, ses, tmo, who⟩ := f
  simp only at h
  subst h
  have e1 : nms 5 320 3 = 11 := by decide +kernel
  have e2 : need 3 = 0 := by decide +kernel
  have e3 : (lt4 3).toList.isEmpty = false := by decide +kernel
  have hp : hasB (lt4 3) 112 = true := by decide +kernel
  have hd : hasB (lt4 3) 100 = true := by decide +kernel
  have ha : hasB (lt4 3) 97 = false := by decide +kernel
  have hv : hasB (lt4 3) 118 = true := by decide +kernel
  have hf : hasB (lt4 3) 102 = false := by decide +kernel
  have hs : hasB (lt4 3) 115 = true := by decide +kernel
  have ht : hasB (lt4 3) 116 = false := by decide +kernel
  have hw : hasB (lt4 3) 119 = true := by decide +kernel
  have ho : hasB (lt4 3) 111 = false := by decide +kernel
  unfold mayF mayB flatOk bdOk fz
  simp only [e1, e2, e3, fz_11, nd_0, hp, hd, ha, hv, hf, hs, ht, hw, ho]
  generalize aclOk acl = x1
  generalize whoOk who = x2
  generalize path.toList.isEmpty = x3
  generalize path.size = x4
  generalize data.length = x5
  generalize acl.length = x6
  generalize who.length = x7
  rw [Bool.eq_iff_iff]
  by_cases hn : n = 0
  · have hy1 := hy hn
    clear hy
    subst hn hy1
    cases x1 <;> cases x2 <;> cases x3 <;> cases eph <;> cases seq <;> simp <;> omega
  · clear hy
    cases x1 <;> cases x2 <;> cases x3 <;> cases eph <;> cases seq <;> cases y <;> simp <;> omega

set_option maxHeartbeats 1000000 in
theorem inF_4 (f : RqF) (n : Nat) (y : Bool) (hy : n = 0 → y = true) (h : f.kind = 4) : (flatOk 5 320 f n && (bdOk f && (decide ((n : Int) ≤ 8) && y))) = (decide (f.ses = 0) && decide (f.who.length = 0) && mayF f n) := by
  obtain ⟨kind, path, data, acl, ver, eph, seq, ses, tmo, who⟩ := f
  simp only at h
  subst h
  have e1 : nms 5 320 4 = 13 := by decide +kernel
  have e2 : need 4 = 0 := by decide +kernel
  have e3 : (lt4 4).toList.isEmpty = false := by decide +kernel
  have hp : hasB (lt4 4) 112 = true := by decide +kernel
  have hd : hasB (lt4 4) 100 = false := by decide +kernel
  have ha : hasB (lt4 4) 97 = true := by decide +kernel
  have hv : hasB (lt4 4) 118 = true := by decide +kernel
  have hf : hasB (lt4 4) 102 = false := by decide +kernel
  have hs : hasB (lt4 4) 115 = true := by decide +kernel
  have ht : hasB (lt4 4) 116 = false := by decide +kernel
  have hw : hasB (lt4 4) 119 = true := by decide +kernel
  have ho : hasB (lt4 4) 111 = false := by decide +kernel
  unfold mayF mayB flatOk bdOk fz
  simp only [e1, e2, e3, fz_13, nd_0, hp, hd, ha, hv, hf, hs, ht, hw, ho]
  generalize aclOk acl = x1
  generalize whoOk who = x2
  generalize path.toList.isEmpty = x3
  generalize path.size = x4
  generalize data.length = x5
  generalize acl.length = x6
  generalize who.length = x7
  rw [Bool.eq_iff_iff]
  by_cases hn : n = 0
  · have hy1 := hy hn
    clear hy
    subst hn hy1
    cases x1 <;> cases x2 <;> cases x3 <;> cases eph <;> cases seq <;> simp <;> omega
  · clear hy
    cases x1 <;> cases x2 <;> cases x3 <;> cases eph <;> cases seq <;> cases y <;> simp <;> omega

set_option maxHeartbeats 1000000 in
theorem inF_5 (f : RqF) (n : Nat) (y : Bool) (hy : n = 0 → y = true) (h : f.kind = 5) : (flatOk 5 320 f n && (bdOk f && (decide ((n : Int) ≤ 8) && y))) = (decide (f.ses = 0) && decide (f.who.length = 0) && mayF f n) := by
  obtain ⟨kind, path, data, acl, ver, eph, seq, ses, tmo, who⟩ := f
  simp only at h
  subst h
  have e1 : nms 5 320 5 = 9 := by decide +kernel
  have e2 : need 5 = 0 := by decide +kernel
  have e3 : (lt4 5).toList.isEmpty = false := by decide +kernel
  have hp : hasB (lt4 5) 112 = true := by decide +kernel
  have hd : hasB (lt4 5) 100 = false := by decide +kernel
  have ha : hasB (lt4 5) 97 = false := by decide +kernel
  have hv : hasB (lt4 5) 118 = true := by decide +kernel
  have hf : hasB (lt4 5) 102 = false := by decide +kernel
  have hs : hasB (lt4 5) 115 = true := by decide +kernel
  have ht : hasB (lt4 5) 116 = false := by decide +kernel
  have hw : hasB (lt4 5) 119 = true := by decide +kernel
  have ho : hasB (lt4 5) 111 = false := by decide +kernel
  unfold mayF mayB flatOk bdOk fz
  simp only [e1, e2, e3, fz_9, nd_0, hp, hd, ha, hv, hf, hs, ht, hw, ho]
  generalize aclOk acl = x1
  generalize whoOk who = x2
  generalize path.toList.isEmpty = x3
  generalize path.size = x4
  generalize data.length = x5
  generalize acl.length = x6
  generalize who.length = x7
  rw [Bool.eq_iff_iff]
  by_cases hn : n = 0
  · have hy1 := hy hn
    clear hy
    subst hn hy1
    cases x1 <;> cases x2 <;> cases x3 <;> cases eph <;> cases seq <;> simp <;> omega
  · clear hy
    cases x1 <;> cases x2 <;> cases x3 <;> cases eph <;> cases seq <;> cases y <;> simp <;> omega

end Go.Proofs.YtldcbabgommghaaGreatDoor

/- The document's CheckRequest and the program's bits agree. No Go function is walked here. -/
namespace Go.Proofs.YtldcbabgommghaaGreatDoor
open Go.RowKit
set_option maxRecDepth 8000

/-- May an inner request be, as the document says? -/
def Rq.refIn (r : Rq) : Bool :=
  match r with
  | .mk f n _ => decide (1 ≤ f.kind ∧ f.kind ≤ 5) && decide (f.ses = 0) && decide (f.who.length = 0) && mayF f n

/-- May a request be, as the document says? -/
def Rq.refOk (r : Rq) : Bool :=
  match r with
  | .mk f n ops => mayF f n && (List.ofFn fun i : Fin n => (ops i).refIn).all id

theorem mayF_out (f : RqF) (n : Nat) (h : f.kind < 1 ∨ 12 < f.kind) : mayF f n = false := by
  have e : lt4 f.kind = ⟨#[]⟩ := by
    unfold lt4
    rw [if_neg (by omega), if_neg (by omega), if_neg (by omega), if_neg (by omega), if_neg (by omega), if_neg (by omega), if_neg (by omega), if_neg (by omega)]
  have e2 : (lt4 f.kind).toList.isEmpty = true := by rw [e]; decide +kernel
  unfold mayF mayB
  rw [e2]
  simp

theorem flat_out (last wo : Int) (f : RqF) (n : Nat) (h : f.kind < 1 ∨ last < f.kind) : flatOk last wo f n = false := by
  have e : nms last wo f.kind = 0 := by unfold nms; rw [if_pos h]
  unfold flatOk
  rw [e]
  simp

theorem mayF_flat (f : RqF) (n : Nat) : mayF f n = (flatOk 12 0 f n && (bdOk f && decide ((n : Int) ≤ 8))) := by
  by_cases h : f.kind < 1 ∨ 12 < f.kind
  · rw [mayF_out f n h, flat_out 12 0 f n h]; rfl
  · rcases (show f.kind = 1 ∨ f.kind = 2 ∨ f.kind = 3 ∨ f.kind = 4 ∨ f.kind = 5 ∨ f.kind = 6 ∨ f.kind = 7 ∨ f.kind = 8 ∨ f.kind = 9 ∨ f.kind = 10 ∨ f.kind = 11 ∨ f.kind = 12 by omega) with h | h | h | h | h | h | h | h | h | h | h | h
    · exact mayF_1 f n h
    · exact mayF_2 f n h
    · exact mayF_3 f n h
    · exact mayF_4 f n h
    · exact mayF_5 f n h
    · exact mayF_6 f n h
    · exact mayF_7 f n h
    · exact mayF_8 f n h
    · exact mayF_9 f n h
    · exact mayF_10 f n h
    · exact mayF_11 f n h
    · exact mayF_12 f n h

theorem inOk_ref (r : Rq) : r.inOk = r.refIn := by
  cases r with
  | mk f n ops =>
    show (flatOk 5 320 f n && (bdOk f && (decide ((n : Int) ≤ 8) && (List.ofFn fun i : Fin n => (ops i).inOk).all id))) = (decide (1 ≤ f.kind ∧ f.kind ≤ 5) && decide (f.ses = 0) && decide (f.who.length = 0) && mayF f n)
    by_cases h : 1 ≤ f.kind ∧ f.kind ≤ 5
    · rw [decide_eq_true h, Bool.true_and]
      have hy : n = 0 → (List.ofFn fun i : Fin n => (ops i).inOk).all id = true := fun e => by subst e; rfl
      rcases (show f.kind = 1 ∨ f.kind = 2 ∨ f.kind = 3 ∨ f.kind = 4 ∨ f.kind = 5 by omega) with h | h | h | h | h
      · exact inF_1 f n _ hy h
      · exact inF_2 f n _ hy h
      · exact inF_3 f n _ hy h
      · exact inF_4 f n _ hy h
      · exact inF_5 f n _ hy h
    · rw [decide_eq_false h, flat_out 5 320 f n (by omega)]
      simp

theorem mayP_ref (r : Rq) : mayP 12 0 r = r.refOk := by
  cases r with
  | mk f n ops =>
    show (flatOk 12 0 f n && (bdOk f && (decide ((n : Int) ≤ 8) && (List.ofFn fun i : Fin n => (ops i).inOk).all id))) = (mayF f n && (List.ofFn fun i : Fin n => (ops i).refIn).all id)
    rw [mayF_flat, Bool.and_assoc, Bool.and_assoc]
    congr 3
    congr 1
    congr 1
    funext i
    exact inOk_ref (ops i)

theorem mayP8_ref (r : Rq) : mayP 8 0 r = (decide (r.f.kind ≤ 8) && r.refOk) := by
  rw [← mayP_ref]
  cases r with
  | mk f n ops =>
    show (flatOk 8 0 f n && _) = (decide (f.kind ≤ 8) && (flatOk 12 0 f n && _))
    by_cases h : f.kind ≤ 8
    · have e : nms 8 0 f.kind = nms 12 0 f.kind := by
        unfold nms
        by_cases h1 : f.kind < 1
        · rw [if_pos (.inl h1), if_pos (.inl h1)]
        · rw [if_neg (by omega), if_neg (by omega)]
      have e2 : flatOk 8 0 f n = flatOk 12 0 f n := by unfold flatOk; rw [e]
      rw [e2, decide_eq_true h, Bool.true_and]
    · rw [flat_out 8 0 f n (by omega), decide_eq_false h]
      simp

theorem txOk_ref (t : TxD) : txOk t = (zxOk t.ep t.n && origOk t.srv t.num && (decide (t.rq.f.kind ≤ 8) && t.rq.refOk)) := by
  unfold txOk
  rw [mayP8_ref]
end Go.Proofs.YtldcbabgommghaaGreatDoor

/- CheckRequest of the document's layer 4, for every request; txn.CheckRequest. -/
namespace Go.Proofs.YtldcbabgommghaaGreatDoor
open Go.RowKit
set_option maxRecDepth 8000

theorem refMay_any (f : RqF) (n : Nat) (dv av wv ov : Value) (oc : Fin n → List Value) (w : World) (hd : Sees w dv f.data) (ha : SeesR w av 3 (f.acl.map EnD.cells)) (hw : SeesR w wv 2 (f.who.map IdD.cells)) (ho : SeesR w ov 11 (List.ofFn oc)) (hg : f.good) (hn : n ≤ 140737488355328) :
    Calls Tryz.prog 62 #[.agg (rqCells f dv av wv ov).toArray] w fun r w' => r = .returned (.bool (mayF f n)) ∧ Below w.heap.size w w' := by
  have HA : ∀ W, Below w.heap.size w W → Calls Tryz.prog 71 #[av] W fun r w' => r = .returned (.bool (aclOk f.acl)) ∧ w' = W := fun W hW => refAcl_any av f.acl W (ha.below hW (Nat.le_refl _)) hg.al (fun x hx => (hg.ae x hx).2.2)
  have HW : ∀ W, Below w.heap.size w W → Calls Tryz.prog 72 #[wv] W fun r w' => r = .returned (.bool (whoOk f.who)) ∧ w' = W := fun W hW => refIds_any wv f.who W (hw.below hW (Nat.le_refl _)) hg.wl hg.we
  obtain ⟨kind, path, data, acl, ver, eph, seq, ses, tmo, who⟩ := f
  simp only at hd ha hw HA HW
  obtain ⟨da, dc, rfl, _⟩ := id hd
  obtain ⟨aa, ac, e1⟩ := seesR_shape ha
  obtain ⟨wa, wc', e2⟩ := seesR_shape hw
  obtain ⟨oa, occ, e3⟩ := seesR_shape ho
  rw [List.length_map] at e1 e2
  rw [List.length_ofFn] at e3
  subst e1 e2 e3
  exact refMay_bits kind path da aa wa oa data.length dc acl.length ac who.length wc' n occ ver eph seq ses tmo _ _ w HA HW hg.pl hg.dl hg.al hg.wl hn

theorem refIn_false (r : Rq) (h : r.f.kind < 1 ∨ 5 < r.f.kind ∨ r.f.ses ≠ 0 ∨ r.f.who.length ≠ 0) : r.refIn = false := by
  cases r with
  | mk f n ops =>
    simp only [Rq.f] at h
    show (decide (1 ≤ f.kind ∧ f.kind ≤ 5) && decide (f.ses = 0) && decide (f.who.length = 0) && mayF f n) = false
    rcases h with h | h | h | h
    · rw [decide_eq_false (by omega)]; rfl
    · rw [decide_eq_false (by omega)]; rfl
    · rw [decide_eq_false h]; simp
    · rw [decide_eq_false h]; simp

theorem refIn_may (f : RqF) (n : Nat) (ops : Fin n → Rq) (h1 : 1 ≤ f.kind) (h2 : f.kind ≤ 5) (h3 : f.ses = 0) (h4 : f.who.length = 0) : (Rq.mk f n ops).refIn = mayF f n := by
  show (decide (1 ≤ f.kind ∧ f.kind ≤ 5) && decide (f.ses = 0) && decide (f.who.length = 0) && mayF f n) = mayF f n
  rw [decide_eq_true ⟨h1, h2⟩, decide_eq_true h3, decide_eq_true h4]; rfl

set_option maxHeartbeats 4000000 in
theorem refCheckRequest_any (f : RqF) (n : Nat) (ops : Fin n → Rq) (cs : List Value) (w : World) (h : SeesRq w cs (.mk f n ops)) (hgd : (Rq.mk f n ops).good) :
    Calls Tryz.prog 45 #[.agg cs.toArray] w fun r w' => r = .returned (.int .i64 (if (Rq.mk f n ops).refOk then 0 else 40)) ∧ Below w.heap.size w w' := by
  obtain ⟨dv, av, wv, ov, oc, rfl, hd, ha, hw, ho, hs⟩ := rq_inv h
  obtain ⟨gf, gn, gops⟩ := good_inv hgd
  have HM : Hid (∀ W : World, Below w.heap.size w W → Calls Tryz.prog 62 #[.agg (rqCells f dv av wv ov).toArray] W fun r w' => r = .returned (.bool (mayF f n)) ∧ Below W.heap.size W w') := fun W hW =>
    refMay_any f n dv av wv ov oc W (hd.below hW (Nat.le_refl _)) (ha.below hW (Nat.le_refl _)) (hw.below hW (Nat.le_refl _)) (ho.below hW (Nat.le_refl _)) gf gn
  have HS : Hid (SeesR w ov 11 (List.ofFn oc) ∧ (∀ i, SeesRq w (oc i) (ops i)) ∧ ∀ i, (ops i).good) := ⟨ho, hs, gops⟩
  obtain ⟨R, hR⟩ : ∃ R, R = (Rq.mk f n ops).refOk := ⟨_, rfl⟩
  have HR : Hid (R = (mayF f n && (List.ofFn fun i : Fin n => (ops i).refIn).all id)) := hR
  rw [← hR]
  obtain ⟨E, hE⟩ : ∃ E : Int, E = (if R then 0 else 40) := ⟨_, rfl⟩
  rw [← hE]
  have HEE : Hid _ := hE
  clear hE
  obtain ⟨kind, path, data, acl, ver, eph, seq, ses, tmo, who⟩ := f
  simp only at hd ha hw
  obtain ⟨da, dl, dc, rfl⟩ := sees_form hd
  obtain ⟨aa, al, ac, rfl⟩ := seesR_form ha
  obtain ⟨wa, wl, wc', rfl⟩ := seesR_form hw
  obtain ⟨oa, occ, e3⟩ := seesR_shape ho
  rw [List.length_ofFn] at e3
  subst e3
  have hcap : n ≤ occ ∧ occ ≤ 9223372036854775807 := by
    obtain ⟨a1, c1, q1, q2, q3, _⟩ := ho
    simp at q1 q2
    unfold maxLen at q3
    omega
  obtain ⟨hcx, hcx'⟩ := hcap
  generalize mayF ⟨kind, path, data, acl, ver, eph, seq, ses, tmo, who⟩ n = m0 at *
  clear hd ha hw ho hs h hgd gf gops hR
  simp only [rqCells] at HM ⊢
  obtain ⟨V, eV⟩ : ∃ V, V = w.alloc (.cells #[.int .i8 kind, .string path, .slice da dl dc, .slice aa al ac, .int .i32 ver, .bool eph, .bool seq, .int .i64 ses, .int .i32 tmo, .slice wa wl wc', .slice oa n occ] 35) := ⟨_, rfl⟩
  have HV : Hid (Below w.heap.size w V ∧ V.cell? ⟨w.heap.size, 10, none⟩ = some (.slice oa n occ)) := by
    subst eV
    exact ⟨one_alloc w _, by rw [cell_of_row _ _ _ _ _ _ (heap_alloc_new _ _)]; rfl⟩
  have HE : Hid _ := eV
  clear eV
  go_enter Tryz.func45, Tryz.ntmps45
  go_wp2_with fail
  rw [← HE.out]
  clear HE
  refine (HM.out _ HV.out.1).mono ?_
  rintro _ w1 ⟨rfl, b1⟩
  have HB1 : Hid (Below V.heap.size V w1) := b1
  clear b1 HM
  cases m0
  · have HF : Hid (R = false) := by show _ = _; rw [HR.out]; rfl
    go_wp2_with fail
    go_ret
    exact ⟨by rw [HEE.out, HF.out]; rfl, HV.out.1.trans (HB1.out.mono HV.out.1.size)⟩
  · have HL : Hid (R = (List.ofFn fun i : Fin n => (ops i).refIn).all id) := by show _ = _; rw [HR.out]; rfl
    clear HR
    go_wp2_with fail
    go_loopw [3] (fun i wr => ∃ k : Nat, k ≤ n ∧ i = .int .i64 k ∧ Hid (Below V.heap.size V wr ∧ ∀ i : Fin n, i.1 < k → (ops i).refIn = true)) (fun i _ => n - (intOf i).toNat)
    case atStart => exact ⟨0, Nat.zero_le _, rfl, HB1.out, fun i hi => by omega⟩
    case round =>
      clear HB1 w1
      obtain ⟨k, hk, rfl, HB⟩ := hrel
      have x10 := cell_later HV.out.2 HB.out.1 (Nat.le_refl _)
      have HBW : Hid (Below w.heap.size w wr) := HV.out.1.trans (HB.out.1.mono HV.out.1.size)
      by_cases hlx : k < n
      · obtain ⟨a1', c1', q1, _, _, _, h3⟩ := HS.out.1
        simp at q1
        obtain ⟨rfl, rfl⟩ := q1
        rcases h3 with h3 | ⟨b, off, rfl, h3⟩
        · have : n = 0 := by simpa using congrArg List.length h3
          omega
        have hat : ∀ j, j < 11 → wr.cell? ⟨b, off + k * 11 + j, none⟩ = some ((oc ⟨k, hlx⟩).getD j (.bool false)) := fun j hj => by
          have := cell_later (h3 k (by simpa using hlx) j hj) HBW.out (Nat.le_refl _)
          simpa using this
        have hq := HS.out.2.1 ⟨k, hlx⟩
        have hgq := HS.out.2.2 ⟨k, hlx⟩
        have HFA : Hid ((ops ⟨k, hlx⟩).refIn = false → R = false) := fun e => by
          rw [HL.out, List.all_eq_false]
          exact ⟨(ops ⟨k, hlx⟩).refIn, List.mem_ofFn.2 ⟨⟨k, hlx⟩, rfl⟩, by rw [e]; simp⟩
        have HTR : Hid ((ops ⟨k, hlx⟩).refIn = true → ∀ i : Fin n, i.1 < k + 1 → (ops i).refIn = true) := fun e i hi => by
          by_cases hik : i.1 = k
          · have : i = ⟨k, hlx⟩ := Fin.ext hik
            rw [this]; exact e
          · exact HB.out.2 i (by omega)
        generalize ops ⟨k, hlx⟩ = r at *
        cases r with
        | mk g m ops' =>
          obtain ⟨gf, gm, _⟩ := good_inv hgq
          obtain ⟨dv', av', wv', ov', oc', hcs, hd, ha, hw, ho, hs⟩ := rq_inv hq
          have HX : Hid (∀ W : World, Below wr.heap.size wr W → Calls Tryz.prog 62 #[.agg (rqCells g dv' av' wv' ov').toArray] W fun r w' => r = .returned (.bool (mayF g m)) ∧ Below W.heap.size W w') := fun W hW => by
            have hW' := HBW.out.trans (hW.mono HBW.out.size)
            exact refMay_any g m dv' av' wv' ov' oc' W (hd.below hW' (Nat.le_refl _)) (ha.below hW' (Nat.le_refl _)) (hw.below hW' (Nat.le_refl _)) (ho.below hW' (Nat.le_refl _)) gf gm
          have HNo := refIn_false (.mk g m ops')
          have HYes := refIn_may g m ops'
          have hwl : ∃ e0 e2, wv' = .slice e0 g.who.length e2 := by
            obtain ⟨a, c, e⟩ := seesR_shape hw
            rw [List.length_map] at e
            exact ⟨a, c, e⟩
          obtain ⟨gk, gp, gda, gac, gv, ge, gs, gse, gt, gw⟩ := g
          simp only [Rq.f] at HNo HYes hwl hd ha
          obtain ⟨dx0, dx1, dx2, rfl⟩ := sees_form hd
          obtain ⟨ax0, ax1, ax2, rfl⟩ := seesR_form ha
          obtain ⟨ex0, ex2, rfl⟩ := hwl
          obtain ⟨ox0, ox1, ox2, rfl⟩ := seesR_form ho
          have HNY : Hid _ := And.intro HNo HYes
          rw [hcs] at hat
          simp only [rqCells] at hat HX
          have k0 := gf.k0
          have k1 := gf.k1
          generalize gw.length = el at *
          generalize (Rq.mk ⟨gk, gp, gda, gac, gv, ge, gs, gse, gt, gw⟩ m ops').refIn = rin at *
          generalize mayF ⟨gk, gp, gda, gac, gv, ge, gs, gse, gt, gw⟩ m = mf at *
          have g0 : wr.cell? ⟨b, off + k * 11, none⟩ = some (.int .i8 gk) := hat 0 (by omega)
          have g1 : wr.cell? ⟨b, off + k * 11 + 1, none⟩ = some (.string gp) := hat 1 (by omega)
          have g2 : wr.cell? ⟨b, off + k * 11 + 2, none⟩ = some (.slice dx0 dx1 dx2) := hat 2 (by omega)
          have g3 : wr.cell? ⟨b, off + k * 11 + 3, none⟩ = some (.slice ax0 ax1 ax2) := hat 3 (by omega)
          have g4 : wr.cell? ⟨b, off + k * 11 + 4, none⟩ = some (.int .i32 gv) := hat 4 (by omega)
          have g5 : wr.cell? ⟨b, off + k * 11 + 5, none⟩ = some (.bool ge) := hat 5 (by omega)
          have g6 : wr.cell? ⟨b, off + k * 11 + 6, none⟩ = some (.bool gs) := hat 6 (by omega)
          have g7 : wr.cell? ⟨b, off + k * 11 + 7, none⟩ = some (.int .i64 gse) := hat 7 (by omega)
          have g8 : wr.cell? ⟨b, off + k * 11 + 8, none⟩ = some (.int .i32 gt) := hat 8 (by omega)
          have g9 : wr.cell? ⟨b, off + k * 11 + 9, none⟩ = some (.slice ex0 el ex2) := hat 9 (by omega)
          have g10 : wr.cell? ⟨b, off + k * 11 + 10, none⟩ = some (.slice ox0 ox1 ox2) := hat 10 (by omega)
          have HBA : Hid (∀ o : Obj, Below wr.heap.size wr (wr.alloc o) ∧ Below w.heap.size w (wr.alloc o) ∧ Below V.heap.size V (wr.alloc o)) := fun o => ⟨one_alloc wr o, HBW.out.trans ((one_alloc wr o).mono HBW.out.size), HB.out.1.trans ((one_alloc wr o).mono HB.out.1.size)⟩
          clear hat hcs hd ha hw ho hs hq hgq gf gm h3 HB HNo HYes HS HL
          rcases (show gk < 1 ∨ 5 < gk ∨ (1 ≤ gk ∧ gk ≤ 5) by omega) with c1 | c1 | c1
          · have HZ : Hid (R = false) := HFA.out (HNY.out.1 (.inl c1))
            go_wp2_with fail
            go_ret
            exact ⟨by rw [HEE.out, HZ.out]; rfl, (HBA.out _).2.1⟩
          · have HZ : Hid (R = false) := HFA.out (HNY.out.1 (.inr (.inl c1)))
            go_wp2_with fail
            go_ret
            exact ⟨by rw [HEE.out, HZ.out]; rfl, (HBA.out _).2.1⟩
          · obtain ⟨c1, c2⟩ := c1
            rcases Int.lt_trichotomy gse 0 with c3 | c3 | c3
            · have HZ : Hid (R = false) := HFA.out (HNY.out.1 (.inr (.inr (.inl (by omega)))))
              go_wp2_with fail
              go_ret
              exact ⟨by rw [HEE.out, HZ.out]; rfl, (HBA.out _).2.1⟩
            · subst c3
              rcases Nat.eq_zero_or_pos el with rfl | c4
              · have HQ : Hid (rin = mf) := HNY.out.2 c1 c2 rfl rfl
                go_wp2_with fail
                refine (HX.out _ (HBA.out _).1).mono ?_
                rintro _ w5 ⟨rfl, b5⟩
                have HB5 : Hid (Below V.heap.size V w5 ∧ Below w.heap.size w w5) := ⟨(HBA.out _).2.2.trans (b5.mono (HBA.out _).2.2.size), (HBA.out _).2.1.trans (b5.mono (HBA.out _).2.1.size)⟩
                clear b5 HBA HX g0 g1 g2 g3 g4 g5 g6 g7 g8 g9 g10 x10
                cases mf
                · have HZ : Hid (R = false) := HFA.out HQ.out
                  go_wp2_with fail
                  go_ret
                  exact ⟨by rw [HEE.out, HZ.out]; rfl, HB5.out.2⟩
                · have HT := HTR.out HQ.out
                  have HT2 : Hid _ := HT
                  clear HT
                  go_wp2_with fail
                  go_roundw
                  case rel => exact ⟨k + 1, by omega, by go_num, HB5.out.1, HT2.out⟩
                  case measure => simp [intOf]; omega
              · have HZ : Hid (R = false) := HFA.out (HNY.out.1 (.inr (.inr (.inr (by omega)))))
                go_wp2_with fail
                go_ret
                exact ⟨by rw [HEE.out, HZ.out]; rfl, (HBA.out _).2.1⟩
            · have HZ : Hid (R = false) := HFA.out (HNY.out.1 (.inr (.inr (.inl (by omega)))))
              go_wp2_with fail
              go_ret
              exact ⟨by rw [HEE.out, HZ.out]; rfl, (HBA.out _).2.1⟩
      · have HT : Hid (R = true) := by
          show _ = _
          rw [HL.out, List.all_eq_true]
          intro x hx
          obtain ⟨i, rfl⟩ := List.mem_ofFn.1 hx
          exact HB.out.2 i (by omega)
        clear HL HS
        go_wp2_with fail
        go_ret
        exact ⟨by rw [HEE.out, HT.out]; rfl, HBW.out⟩

end Go.Proofs.YtldcbabgommghaaGreatDoor
