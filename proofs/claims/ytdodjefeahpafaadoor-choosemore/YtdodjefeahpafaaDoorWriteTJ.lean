/- What txn.Write answers, for every transaction in blocks below it. -/
import Derived.Test.YtdodjefeahpafaaDoorPutMJ
import Derived.Test.YtdodjefeahpafaaDoorChkTJ
import Derived.Test.YtdodjefeahpafaaDoorWriteOkJ
namespace Go.Proofs.YtdodjefeahpafaaDoor
open Go.RowKit
set_option maxRecDepth 8000

/-- The bytes of a transaction's request. -/
def encOut : Rq → List Int
  | .mk f n ops =>
    if f.kind = 1 then encP true true true false true true false true f []
    else if f.kind = 3 then encP true true false true false true false true f []
    else if f.kind = 4 then encP true false true true false true false true f []
    else if f.kind = 6 then encP false false false false false true false true f (be4 n ++ opsB ops n)
    else if f.kind = 7 then encP false false false false false false true false f []
    else if f.kind = 8 then encP false false false false false true false false f []
    else encP true false false true false true false true f []

theorem encOut_mk (f : RqF) (n : Nat) (ops : Fin n → Rq) : encOut (.mk f n ops) =
    if f.kind = 1 then encP true true true false true true false true f []
    else if f.kind = 3 then encP true true false true false true false true f []
    else if f.kind = 4 then encP true false true true false true false true f []
    else if f.kind = 6 then encP false false false false false true false true f (be4 n ++ opsB ops n)
    else if f.kind = 7 then encP false false false false false false true false f []
    else if f.kind = 8 then encP false false false false false true false false f []
    else encP true false false true false true false true f [] := rfl

theorem mayP_inv {f : RqF} {n : Nat} {ops : Fin n → Rq} (h : mayP 8 0 (Rq.mk f n ops) = true) : 1 ≤ f.kind ∧ f.kind ≤ 8 ∧ bdOk f = true ∧ n ≤ 8 ∧ ∀ i, (ops i).inOk = true := by
  simp only [mayP, flatOk, Bool.and_eq_true, decide_eq_true_eq] at h
  have h1 : nms 8 0 f.kind ≠ 0 := by simpa using h.1.1.1
  refine ⟨?_, ?_, h.2.1, by have := h.2.2.1; omega, fun i => ?_⟩
  · by_cases hk : f.kind < 1
    · exact absurd (by unfold nms; rw [if_pos (.inl hk)]) h1
    · omega
  · by_cases hk : 8 < f.kind
    · exact absurd (by unfold nms; rw [if_pos (.inr hk)]) h1
    · omega
  · have := List.all_eq_true.1 h.2.2.2 (ops i).inOk (by rw [List.mem_ofFn]; exact ⟨i, rfl⟩)
    simpa using this

theorem putOut_any (r : Rq) (cs : List Value) (B g : Nat) (v : Value) (xs : List Int) (w : World) (hr : RqL w (· < B) cs r) (hok : mayP 8 0 r = true) (h : IsW w g v xs) (hx : xs.length ≤ 10000000000) (hn : Nam w) (hB : 0 < B) (hg : B ≤ g) (hv : ∀ j, v.ownBlock = some j → B ≤ j) :
    Calls Tryd.prog 39 #[lay 8 0, .pointer (some ⟨g, 0, none⟩), .agg cs.toArray] w fun e w' => e = .returned (.tuple #[]) ∧ Puts w g v (xs ++ encOut r) w' := by
  cases hr with
  | mk f n ops dv av wv ov oc hd ha hw ho fd fa fw fo hs =>
    obtain ⟨h1, h2, h3, h4, h5⟩ := mayP_inv hok
    have hl : Lies4 w B f dv av wv := ⟨h3, hd, ha, hw, fd, fa, fw⟩
    have hov := seesR_form ho
    have hx' : xs.length ≤ 1000000000000 := by omega
    rw [encOut_mk]
    by_cases k1 : f.kind = 1
    · rw [if_pos k1]; exact put_ou1 f dv av wv ov hov B g v xs w k1 hl h hx' hn hB hg hv
    rw [if_neg k1]
    by_cases k3 : f.kind = 3
    · rw [if_pos k3]; exact put_ou3 f dv av wv ov hov B g v xs w k3 hl h hx' hn hB hg hv
    rw [if_neg k3]
    by_cases k4 : f.kind = 4
    · rw [if_pos k4]; exact put_ou4 f dv av wv ov hov B g v xs w k4 hl h hx' hn hB hg hv
    rw [if_neg k4]
    by_cases k6 : f.kind = 6
    · rw [if_pos k6]; exact put_ou6 f dv av wv ov n oc ops B g v xs w k6 hl ho fo hs h5 h4 h hx hn hB hg hv
    rw [if_neg k6]
    by_cases k7 : f.kind = 7
    · rw [if_pos k7]; exact put_ou7 f dv av wv ov hov B g v xs w k7 hl h hx' hn hB hg hv
    rw [if_neg k7]
    by_cases k8 : f.kind = 8
    · rw [if_pos k8]; exact put_ou8 f dv av wv ov hov B g v xs w k8 hl h hx' hn hB hg hv
    rw [if_neg k8]
    by_cases k2 : f.kind = 2
    · exact put_ou2 f dv av wv ov hov B g v xs w k2 hl h hx' hn hB hg hv
    · exact put_ou5 f dv av wv ov hov B g v xs w (by omega) hl h hx' hn hB hg hv

/-- The bytes of a transaction. -/
def txB (t : TxD) : List Int := headB t.ep t.n t.srv t.boot t.num ++ encOut t.rq

set_option maxHeartbeats 1000000 in
theorem write_bad (cs : List Value) (w : World) (hf : cs.length = 16) (hform : ∃ t, ∃ W, SeesTx W cs t) (hck : ∀ W : World, Below w.heap.size w W → Calls Tryd.prog 34 #[.agg cs.toArray] W fun r W' => r = .returned (.int .i64 40) ∧ Below W.heap.size W W') :
    Calls Tryd.prog 29 #[.agg cs.toArray] w fun r w' => r = .returned (.tuple #[.slice none 0 0, .int .i64 40]) ∧ Below w.heap.size w w' := by
  obtain ⟨t, W0, rc, rfl, hr⟩ := hform
  have HCK : Hid _ := hck
  obtain ⟨q0, q1, d0, d1, d2, a0, a1, a2, q4, q5, q6, q7, q8, e0, e1, e2, o0, o1, o2, rfl⟩ := rq_forms hr
  simp only [txHead, List.cons_append, List.nil_append] at HCK ⊢
  have hB := one_alloc w
  clear hck hr hf
  go_enter Tryd.func29, Tryd.ntmps29
  go_wp2_with fail
  refine (HCK.out _ (hB _)).mono ?_
  rintro r w1 ⟨rfl, b1⟩
  have HB1 : Hid (Below w.heap.size w w1) := (hB _).trans (b1.mono (by simp))
  clear b1 hB
  go_wp2
  go_ret2
  exact ⟨rfl, HB1.out⟩

theorem encOut_len (r : Rq) (hok : mayP 8 0 r = true) : (encOut r).length ≤ 500000000000 := by
  cases r with
  | mk f n ops =>
    obtain ⟨h1, h2, h3, h4, h5⟩ := mayP_inv hok
    have hb := bdOk_inv h3
    have ha := acB_len f.acl (fun y hy => by have := hb.2.2.2.1 y hy; omega)
    have hi := idsB_len f.who (fun y hy => by have := hb.2.2.2.2.2.2.2.2 y hy; omega)
    have ht := txtB_len f.path
    have ho := opsB_len ops h5 n (Nat.le_refl _)
    rw [encOut_mk]
    split
    · simp [encP, be4, be8]; omega
    split
    · simp [encP, be4, be8]; omega
    split
    · simp [encP, be4, be8]; omega
    split
    · simp [encP, be4, be8]; omega
    split
    · simp [encP, be4]
    split
    · simp [encP, be4, be8]
    · simp [encP, be4, be8]; omega
end Go.Proofs.YtdodjefeahpafaaDoor
