/- What mayBe of package txn answers, for every request at every place. -/
import Derived.Test.YtgjjcmhlmdfccaaGreatDoorChk4J
import Derived.Test.YtgjjcmhlmdfccaaGreatDoorEqQJ
namespace Go.Proofs.YtgjjcmhlmdfccaaGreatDoor
open Go.RowKit
set_option maxRecDepth 8000

/-- What of a request is not zero. -/
def fz (f : RqF) (n : Nat) : Int := fillz (!f.path.toList.isEmpty) (decide (0 < f.data.length)) (decide (0 < f.acl.length)) (f.ver != 0) f.eph f.seq (f.ses != 0) (f.tmo != 0) (decide (0 < f.who.length)) (decide (0 < n))

/-- May a request stand there, its Ops aside? -/
def flatOk (last wo : Int) (f : RqF) (n : Nat) : Bool :=
  (nms last wo f.kind != 0) && (bits .andNot .u16 (fz f n) (nms last wo f.kind) == 0) && (bits .andNot .u16 (need f.kind) (fz f n) == 0)

/-- May a request stand in a Multi? -/
def Rq.inOk : Rq → Bool
  | .mk f n ops => flatOk 5 320 f n && (bdOk f && (decide ((n : Int) ≤ 8) && (List.ofFn fun i : Fin n => (ops i).inOk).all id))

def mayP (last wo : Int) : Rq → Bool
  | .mk f n ops => flatOk last wo f n && (bdOk f && (decide ((n : Int) ≤ 8) && (List.ofFn fun i : Fin n => (ops i).inOk).all id))

theorem mayP_in (r : Rq) : mayP 5 320 r = r.inOk := by
  cases r with
  | mk f n ops => rfl

theorem good_inv {f : RqF} {n : Nat} {ops : Fin n → Rq} (h : (Rq.mk f n ops).good) : f.good ∧ n ≤ 140737488355328 ∧ ∀ i : Fin n, (ops i).good := h

theorem mayBe_any (r : Rq) : ∀ (last wo : Int) (cs : List Value) (w : World), last ≤ 12 → SeesRq w cs r → r.good → Nam w →
    Calls Tryz.prog 144 #[lay last wo, .agg cs.toArray] w fun e w' => e = .returned (.bool (mayP last wo r)) ∧ Below w.heap.size w w' := by
  induction r with
  | mk f n ops ih =>
    intro last wo cs w hl hcs hgd hn
    obtain ⟨dv, av, wv, ov, oc, rfl, hd, ha, hw, ho, hs⟩ := rq_inv hcs
    obtain ⟨_, gn, gops⟩ := good_inv hgd
    have HB : ∀ W : World, Below w.heap.size w W → Calls Tryz.prog 167 #[.agg (rqCells f dv av wv ov).toArray] W fun r w' => r = .returned (.bool (bdOk f && (decide ((n : Int) ≤ 8) && (List.ofFn fun i : Fin n => (ops i).inOk).all id))) ∧ Below W.heap.size W w' := fun W hW =>
      isBounded_any f n ops dv av wv ov oc (fun i => (ops i).inOk) W (hd.below hW (Nat.le_refl _)) (ha.below hW (Nat.le_refl _)) (hw.below hW (Nat.le_refl _)) (ho.below hW (Nat.le_refl _)) (fun i => (hs i).later hW (Nat.le_refl _)) gn
        (fun i V hV => by
          have hb := hW.trans (hV.mono hW.size)
          have := ih i 5 320 (oc i) V (by omega) ((hs i).later hb (Nat.le_refl _)) (gops i) (hn.below hb hn.lt)
          rw [mayP_in] at this
          exact this)
    obtain ⟨kind, path, data, acl, ver, eph, seq, ses, tmo, who⟩ := f
    simp only at hd ha hw
    obtain ⟨da, dc, rfl, _⟩ := id hd
    obtain ⟨aa, ac, e1⟩ := seesR_shape ha
    obtain ⟨wa, wc', e2⟩ := seesR_shape hw
    obtain ⟨oa, occ, e3⟩ := seesR_shape ho
    rw [List.length_map] at e1 e2
    rw [List.length_ofFn] at e3
    subst e1 e2 e3
    have := mayBe_bits last wo kind path da aa wa oa data.length dc acl.length ac who.length wc' n occ ver eph seq ses tmo (nms last wo kind) (fz ⟨kind, path, data, acl, ver, eph, seq, ses, tmo, who⟩ n) _ w hn hl rfl rfl HB
    exact this
end Go.Proofs.YtgjjcmhlmdfccaaGreatDoor
