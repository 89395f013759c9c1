/- What isBounded of package txn answers, for every request. -/
import Derived.Test.YtljghfglabgckaaDoorChk7J
import Derived.Test.YtljghfglabgckaaDoorChk8J
namespace Go.Proofs.YtljghfglabgckaaDoor
open Go.RowKit
set_option maxRecDepth 8000

/-- What isBounded asks ahead of the Ops. -/
def bdOk (f : RqF) : Bool := decide (f.path.size ≤ 64) && decide (f.data.length ≤ 96) && aclOk f.acl && decide (0 ≤ f.ses) && decide (0 ≤ f.tmo) && decide (f.tmo ≤ 1000) && whoOk f.who

theorem isBounded_any (f : RqF) (n : Nat) (ops : Fin n → Rq) (dv av wv ov : Value) (oc : Fin n → List Value) (p : Fin n → Bool) (w : World)
    (hd : Sees w dv f.data) (ha : SeesR w av 3 (f.acl.map EnD.cells)) (hw : SeesR w wv 2 (f.who.map IdD.cells)) (ho : SeesR w ov 11 (List.ofFn oc)) (hs : ∀ i : Fin n, SeesRq w (oc i) (ops i)) (hn : n ≤ 140737488355328)
    (hc : ∀ i (W : World), Below w.heap.size w W → Calls Tryd.prog 46 #[lay 5 320, .agg (oc i).toArray] W fun r W' => r = .returned (.bool (p i)) ∧ Below W.heap.size W W') :
    Calls Tryd.prog 64 #[.agg (rqCells f dv av wv ov).toArray] w fun r w' => r = .returned (.bool (bdOk f && (decide ((n : Int) ≤ 8) && (List.ofFn p).all id))) ∧ Below w.heap.size w w' := by
  by_cases hok : f.path.size ≤ 64 ∧ f.data.length ≤ 96 ∧ aclOk f.acl = true ∧ 0 ≤ f.ses ∧ 0 ≤ f.tmo ∧ f.tmo ≤ 1000 ∧ whoOk f.who = true
  · obtain ⟨b1, b2, b3, b4, b5, b6, b7⟩ := hok
    have e : bdOk f = true := by simp [bdOk, b1, b2, b3, b4, b5, b6, b7]
    rw [e, Bool.true_and]
    exact isBounded_true f n ops dv av wv ov oc p w hd ha hw ho hs hn hc b1 b2 b3 b4 b5 b6 b7
  · have e : bdOk f = false := by
      by_cases h : bdOk f = true
      · simp only [bdOk, Bool.and_eq_true, decide_eq_true_eq] at h
        exact absurd ⟨h.1.1.1.1.1.1, h.1.1.1.1.1.2, h.1.1.1.1.2, h.1.1.1.2, h.1.1.2, h.1.2, h.2⟩ hok
      · simpa using h
    rw [e, Bool.false_and]
    obtain ⟨kind, path, data, acl, ver, eph, seq, ses, tmo, who⟩ := f
    simp only at hd ha hw hok
    have HA : ∀ W : World, Below w.heap.size w W → Calls Tryd.prog 70 #[av, .int .i64 4, .func (.func 71) #[] #[]] W fun r w' => r = .returned (.bool (aclOk acl)) ∧ Below W.heap.size W w' := fun W hW => isListE_any av acl 4 W (ha.below hW (Nat.le_refl _))
    have HW : ∀ W : World, Below w.heap.size w W → Calls Tryd.prog 72 #[wv, .int .i64 4, .func (.func 73) #[] #[]] W fun r w' => r = .returned (.bool (whoOk who)) ∧ Below W.heap.size W w' := fun W hW => isListI_any wv who 4 W (hw.below hW (Nat.le_refl _))
    obtain ⟨da, dc, rfl, _⟩ := id hd
    obtain ⟨aa, al, ac, rfl⟩ := seesR_form ha
    obtain ⟨wa, wl, wc, rfl⟩ := seesR_form hw
    obtain ⟨oa, ol, occ, rfl⟩ := seesR_form ho
    have HL : BdL w aa wa al ac wl wc (aclOk acl) (whoOk who) := ⟨HA, HW⟩
    clear HA HW hd ha hw ho hs hc hn e
    generalize aclOk acl = qa at *
    generalize whoOk who = qw at *
    by_cases b1 : path.size ≤ 64
    · by_cases b2 : data.length ≤ 96
      · cases qa
        · exact bd_3 kind path da aa wa oa data.length dc al ac wl wc ol occ ver eph seq ses tmo false qw w HL b1 b2 rfl
        · by_cases b4 : 0 ≤ ses
          · by_cases b5 : 0 ≤ tmo
            · by_cases b6 : tmo ≤ 1000
              · cases qw
                · exact bd_7 kind path da aa wa oa data.length dc al ac wl wc ol occ ver eph seq ses tmo true false w HL b1 b2 rfl b4 b5 b6 rfl
                · exact absurd ⟨b1, b2, rfl, b4, b5, b6, rfl⟩ hok
              · exact bd_6 kind path da aa wa oa data.length dc al ac wl wc ol occ ver eph seq ses tmo true qw w HL b1 b2 rfl b4 b5 (by omega)
            · exact bd_5 kind path da aa wa oa data.length dc al ac wl wc ol occ ver eph seq ses tmo true qw w HL b1 b2 rfl b4 (by omega)
          · exact bd_4 kind path da aa wa oa data.length dc al ac wl wc ol occ ver eph seq ses tmo true qw w HL b1 b2 rfl (by omega)
      · exact bd_2 kind path da aa wa oa data.length dc al ac wl wc ol occ ver eph seq ses tmo qa qw w HL b1 (by omega)
    · exact bd_1 kind path da aa wa oa data.length dc al ac wl wc ol occ ver eph seq ses tmo qa qw w HL (by omega)
end Go.Proofs.YtljghfglabgckaaDoor
