/- What txn.Write answers, for every transaction in blocks below it. -/
import Derived.Test.YtljghfglabgckaaDoorChk5J
import Derived.Test.YtljghfglabgckaaDoorChkTJ
import Derived.Test.YtljghfglabgckaaDoorWriteOkJ
import Derived.Test.YtljghfglabgckaaDoorEqQJ
namespace Go.Proofs.YtljghfglabgckaaDoor
open Go.RowKit
set_option maxRecDepth 8000

/-- The bytes of a transaction's request. -/
def encOut : Rq → List Int
  | .mk f n ops =>
    if f.kind = 1 then encP true true true false true true false true f []
    else if f.kind = 3 then encP true true false true false true false true f []
    else if f.kind = 4 then encP true false true true false true false true f []
    else if f.kind = 6 then encP false false false false false true false true f (be4 n ++ opsB ops n)
    else if f.kind = 7 then encP false false false false false false true false f []
    else if f.kind = 8 then encP false false false false false true false false f []
    else encP true false false true false true false true f []

theorem encOut_mk (f : RqF) (n : Nat) (ops : Fin n → Rq) : encOut (.mk f n ops) =
    if f.kind = 1 then encP true true true false true true false true f []
    else if f.kind = 3 then encP true true false true false true false true f []
    else if f.kind = 4 then encP true false true true false true false true f []
    else if f.kind = 6 then encP false false false false false true false true f (be4 n ++ opsB ops n)
    else if f.kind = 7 then encP false false false false false false true false f []
    else if f.kind = 8 then encP false false false false false true false false f []
    else encP true false false true false true false true f [] := rfl

theorem mayP_inv {f : RqF} {n : Nat} {ops : Fin n → Rq} (h : mayP 8 0 (Rq.mk f n ops) = true) : 1 ≤ f.kind ∧ f.kind ≤ 8 ∧ bdOk f = true ∧ n ≤ 8 ∧ ∀ i, (ops i).inOk = true := by
  simp only [mayP, flatOk, Bool.and_eq_true, decide_eq_true_eq] at h
  have h1 : nms 8 0 f.kind ≠ 0 := by simpa using h.1.1.1
  refine ⟨?_, ?_, h.2.1, by have := h.2.2.1; omega, fun i => ?_⟩
  · by_cases hk : f.kind < 1
    · exact absurd (by unfold nms; rw [if_pos (.inl hk)]) h1
    · omega
  · by_cases hk : 8 < f.kind
    · exact absurd (by unfold nms; rw [if_pos (.inr hk)]) h1
    · omega
  · have := List.all_eq_true.1 h.2.2.2 (ops i).inOk (by rw [List.mem_ofFn]; exact ⟨i, rfl⟩)
    simpa using this

theorem putOut_any (r : Rq) (cs : List Value) (B g : Nat) (v : Value) (xs : List Int) (w : World) (hr : RqL w (· < B) cs r) (hok : mayP 8 0 r = true) (h : IsW w g v xs) (hx : xs.length ≤ 10000000000) (hn : Nam w) (hB : 0 < B) (hg : B ≤ g) (hv : ∀ j, v.ownBlock = some j → B ≤ j) :
    Calls Tryd.prog 36 #[lay 8 0, .pointer (some ⟨g, 0, none⟩), .agg cs.toArray] w fun e w' => e = .returned (.tuple #[]) ∧ Puts w g v (xs ++ encOut r) w' := by
  cases hr with
  | mk f n ops dv av wv ov oc hd ha hw ho fd fa fw fo hs =>
    obtain ⟨h1, h2, h3, h4, h5⟩ := mayP_inv hok
    have hl : Lies4 w B f dv av wv := ⟨h3, hd, ha, hw, fd, fa, fw⟩
    have hov := seesR_form ho
    have hx' : xs.length ≤ 1000000000000 := by omega
    rw [encOut_mk]
    by_cases k1 : f.kind = 1
    · rw [if_pos k1]; exact put_ou1 f dv av wv ov hov B g v xs w k1 hl h hx' hn hB hg hv
    rw [if_neg k1]
    by_cases k3 : f.kind = 3
    · rw [if_pos k3]; exact put_ou3 f dv av wv ov hov B g v xs w k3 hl h hx' hn hB hg hv
    rw [if_neg k3]
    by_cases k4 : f.kind = 4
    · rw [if_pos k4]; exact put_ou4 f dv av wv ov hov B g v xs w k4 hl h hx' hn hB hg hv
    rw [if_neg k4]
    by_cases k6 : f.kind = 6
    · rw [if_pos k6]; exact put_ou6 f dv av wv ov n oc ops B g v xs w k6 hl ho fo hs h5 h4 h hx hn hB hg hv
    rw [if_neg k6]
    by_cases k7 : f.kind = 7
    · rw [if_pos k7]; exact put_ou7 f dv av wv ov hov B g v xs w k7 hl h hx' hn hB hg hv
    rw [if_neg k7]
    by_cases k8 : f.kind = 8
    · rw [if_pos k8]; exact put_ou8 f dv av wv ov hov B g v xs w k8 hl h hx' hn hB hg hv
    rw [if_neg k8]
    by_cases k2 : f.kind = 2
    · exact put_ou2 f dv av wv ov hov B g v xs w k2 hl h hx' hn hB hg hv
    · exact put_ou5 f dv av wv ov hov B g v xs w (by omega) hl h hx' hn hB hg hv

/-- The bytes of a transaction. -/
def txB (t : TxD) : List Int := headB t.ep t.n t.srv t.boot t.num ++ encOut t.rq

set_option maxHeartbeats 1000000 in
theorem write_bad (cs : List Value) (w : World) (hf : cs.length = 16) (hform : ∃ t, ∃ W, SeesTx W cs t) (hck : ∀ W : World, Below w.heap.size w W → Calls Tryd.prog 31 #[.agg cs.toArray] W fun r W' => r = .returned (.int .i64 40) ∧ Below W.heap.size W W') :
    Calls Tryd.prog 26 #[.agg cs.toArray] w fun r w' => r = .returned (.tuple #[.slice none 0 0, .int .i64 40]) ∧ Below w.heap.size w w' := by
  obtain ⟨t, W0, rc, rfl, hr⟩ := hform
  have HCK : Hid _ := hck
  obtain ⟨q0, q1, d0, d1, d2, a0, a1, a2, q4, q5, q6, q7, q8, e0, e1, e2, o0, o1, o2, rfl⟩ := rq_forms hr
  simp only [txHead, List.cons_append, List.nil_append] at HCK ⊢
  have hB := one_alloc w
  clear hck hr hf
  go_enter Tryd.func26, Tryd.ntmps26
  go_wp2_with fail
  refine (HCK.out _ (hB _)).mono ?_
  rintro r w1 ⟨rfl, b1⟩
  have HB1 : Hid (Below w.heap.size w w1) := (hB _).trans (b1.mono (by simp))
  clear b1 hB
  go_wp2
  go_ret2
  exact ⟨rfl, HB1.out⟩

theorem encOut_len (r : Rq) (hok : mayP 8 0 r = true) : (encOut r).length ≤ 500000000000 := by
  cases r with
  | mk f n ops =>
    obtain ⟨h1, h2, h3, h4, h5⟩ := mayP_inv hok
    have hb := bdOk_inv h3
    have ha := acB_len f.acl (fun y hy => by have := hb.2.2.2.1 y hy; omega)
    have hi := idsB_len f.who (fun y hy => by have := hb.2.2.2.2.2.2.2.2 y hy; omega)
    have ht := txtB_len f.path
    have ho := opsB_len ops h5 n (Nat.le_refl _)
    rw [encOut_mk]
    split
    · simp [encP, be4, be8]; omega
    split
    · simp [encP, be4, be8]; omega
    split
    · simp [encP, be4, be8]; omega
    split
    · simp [encP, be4, be8]; omega
    split
    · simp [encP, be4]
    split
    · simp [encP, be4, be8]
    · simp [encP, be4, be8]; omega
end Go.Proofs.YtljghfglabgckaaDoor

/- What txn.Write answers, for every transaction that lies in memory. -/
namespace Go.Proofs.YtljghfglabgckaaDoor
open Go.RowKit
set_option maxRecDepth 8000

theorem write_good (t : TxD) (rc : List Value) (w : World) (hr : RqL w (· < w.heap.size) rc t.rq) (hg : t.good) (hn : Nam w) (hok : txOk t = true) :
    Calls Tryd.prog 26 #[.agg (txHead t ++ rc).toArray] w fun r w' => ∃ v, r = .returned (.tuple #[v, .int .i64 0]) ∧ Owns w' w.heap.size v (txB t) ∧ Below w.heap.size w w' := by
  have hm : mayP 8 0 t.rq = true := by
    simp only [txOk, Bool.and_eq_true] at hok
    exact hok.2
  have hck : ∀ W : World, Below w.heap.size w W → Calls Tryd.prog 31 #[.agg (txHead t ++ rc).toArray] W fun r W' => r = .returned (.int .i64 0) ∧ Below W.heap.size W W' := fun W hW => by
    have := check_any (txHead t ++ rc) t W ⟨rc, rfl, hr.sees.later hW (Nat.le_refl _)⟩ hg (hn.below hW hn.lt)
    rw [hok] at this
    exact this
  have hpt : ∀ (W : World) (g : Nat) (v : Value) (xs : List Int), Below w.heap.size w W → IsW W g v xs → xs.length ≤ 1000 → w.heap.size ≤ g → (∀ j, v.ownBlock = some j → w.heap.size ≤ j) → Calls Tryd.prog 36 #[lay 8 0, .pointer (some ⟨g, 0, none⟩), .agg rc.toArray] W fun r W' => r = .returned (.tuple #[]) ∧ Puts W g v (xs ++ encOut t.rq) W' := fun W g v xs hW h hx hg' hv =>
    putOut_any t.rq rc w.heap.size g v xs W (RqL.kept (Below.kept hW) (fun q hq => ⟨fun e => by have hq' : q < w.heap.size := hq; omega, hq⟩) hr) hm h (by omega) (hn.below hW hn.lt) hn.lt hg' hv
  obtain ⟨q0, q1, d0, d1, d2, a0, a1, a2, q4, q5, q6, q7, q8, e0, e1, e2, o0, o1, o2, rfl⟩ := rq_forms hr.sees
  exact write_ok t.ep t.n t.srv t.boot t.num q0 q1 d0 a0 e0 o0 d1 d2 a1 a2 e1 e2 o1 o2 q4 q5 q6 q7 q8 (encOut t.rq) w hg.e0 hg.e1 hg.n0 hg.n1 hg.b0 hg.b1 (by have := encOut_len t.rq hm; omega) hck hpt

theorem write_no (t : TxD) (rc : List Value) (w : World) (hr : SeesRq w rc t.rq) (hg : t.good) (hn : Nam w) (hok : txOk t = false) :
    Calls Tryd.prog 26 #[.agg (txHead t ++ rc).toArray] w fun r w' => r = .returned (.tuple #[.slice none 0 0, .int .i64 40]) ∧ Below w.heap.size w w' :=
  write_bad (txHead t ++ rc) w (by simp [txHead, hr.len]) ⟨t, w, rc, rfl, hr⟩ (fun W hW => by
    have := check_any (txHead t ++ rc) t W ⟨rc, rfl, hr.later hW (Nat.le_refl _)⟩ hg (hn.below hW hn.lt)
    rw [hok] at this
    exact this)
end Go.Proofs.YtljghfglabgckaaDoor

/- parts, Parts and Large of lagoonref00: how many parts a request has, the count ended early. -/
namespace Go.Proofs.YtljghfglabgckaaDoor
open Go.RowKit
set_option maxRecDepth 8000

theorem Rq.good_inv {f : RqF} {n : Nat} {ops : Fin n → Rq} (h : (Rq.mk f n ops).good) : f.good ∧ n ≤ 140737488355328 ∧ ∀ i : Fin n, (ops i).good := h

set_option maxHeartbeats 2000000 in
theorem parts_any (r : Rq) : ∀ (cs : List Value) (n0 : Nat) (w : World), SeesRq w cs r → r.good → n0 ≤ 20000 →
    Calls Tryd.prog 25 #[.agg cs.toArray, .int .i64 n0] w fun e w' => ∃ m : Nat, e = .returned (.int .i64 m) ∧ m ≤ 500000000000000 ∧ n0 < m ∧ (m ≤ 20000 → m = n0 + r.parts) ∧ Below w.heap.size w w' := by
  induction r with
  | mk f n ops ih =>
    intro cs n0 w hcs hgd hn0
    obtain ⟨dv, av, wv, ov, oc, rfl, hd, ha, hw, ho, hs⟩ := rq_inv hcs
    obtain ⟨gf, gn, gops⟩ := Rq.good_inv hgd
    have g1 := gf.dl
    have g2 := gf.al
    have g3 := gf.wl
    have HP : Hid ((Rq.mk f n ops).parts = f.parts + partsTo ops n) := Rq.parts_eq f n ops
    have HF : Hid (f.parts = 1 + f.data.length + f.acl.length + f.who.length) := rfl
    obtain ⟨kind, path, data, acl, ver, eph, seq, ses, tmo, who⟩ := f
    simp only at hd ha hw g1 g2 g3
    obtain ⟨da, dc, rfl, _⟩ := hd
    obtain ⟨aa, ac, e1⟩ := seesR_shape ha
    obtain ⟨wa, wc', e2⟩ := seesR_shape hw
    obtain ⟨oa, occ, e3⟩ := seesR_shape ho
    rw [List.length_map] at e1 e2
    rw [List.length_ofFn] at e3
    subst e1 e2 e3
    have HO : Hid (SeesR w (.slice oa n occ) 11 (List.ofFn oc)) := ho
    have hcap : n ≤ occ ∧ occ ≤ 9223372036854775807 := by
      obtain ⟨a1, c1, q1, q2, q3, _⟩ := ho
      simp at q1 q2
      unfold maxLen at q3
      omega
    obtain ⟨hcx, hcx'⟩ := hcap
    have HI : Hid _ := ih
    have HS : Hid (∀ W : World, Below w.heap.size w W → ∀ i, SeesRq W (oc i) (ops i)) := fun W hW i => (hs i).later hW (Nat.le_refl _)
    have HG : Hid (∀ i : Fin n, (ops i).good) := gops
    clear ha hw hcs ho ih hs hgd gf gops
    simp only [rqCells]
    generalize edl : data.length = dl at *
    generalize eal : acl.length = al at *
    generalize ewl : who.length = wl at *
    generalize eFP : (⟨kind, path, data, acl, ver, eph, seq, ses, tmo, who⟩ : RqF).parts = fp at *
    have hfp : fp = 1 + dl + al + wl := HF.out
    obtain ⟨V, eV⟩ : ∃ V, V = w.alloc (.cells #[.int .i8 kind, .string path, .slice da dl dc, .slice aa al ac, .int .i32 ver, .bool eph, .bool seq, .int .i64 ses, .int .i32 tmo, .slice wa wl wc', .slice oa n occ] 47) := ⟨_, rfl⟩
    have HV : Hid (Below w.heap.size w V) := by subst eV; exact one_alloc _ _
    have HC : Hid (∀ W, Below V.heap.size V W → W.cell? ⟨w.heap.size, 10, none⟩ = some (.slice oa n occ)) := by
      intro W hW
      have hx : V.heap[w.heap.size]? = some (.cells #[.int .i8 kind, .string path, .slice da dl dc, .slice aa al ac, .int .i32 ver, .bool eph, .bool seq, .int .i64 ses, .int .i32 tmo, .slice wa wl wc', .slice oa n occ] 47 (0, 0)) := by subst eV; exact heap_alloc_new _ _
      have hx' := (Below.kept hW).heap hx (by have := lt_of_block hx; omega)
      rw [cell_of_row _ _ _ _ _ _ hx']; rfl
    have HE : Hid _ := eV
    clear eV HF eFP edl eal ewl
    go_enter Tryd.func25, Tryd.ntmps25
    go_wp2_with fail
    go_loopw [1, 5] (fun nn i wr => ∃ k m : Nat, k ≤ n ∧ i = .int .i64 k ∧ nn = .int .i64 m ∧ m ≤ 500000000000000 ∧ n0 < m ∧ (m ≤ 20000 → m = n0 + fp + partsTo ops k) ∧ Below V.heap.size V wr) (fun _ i _ => n - (intOf i).toNat)
    case atStart => exact ⟨0, n0 + fp, Nat.zero_le _, rfl, by subst hfp; congr 1; push_cast; omega, by omega, by omega, fun _ => by rw [partsTo_zero]; omega, by rw [← HE.out]; exact Below.refl _ _⟩
    case round =>
      obtain ⟨k, m, hk, rfl, rfl, hm1, hm2, hm3, hbel⟩ := hrel
      have HM : Hid (m ≤ 20000 → m = n0 + fp + partsTo ops k) := hm3
      have HB : Hid (Below V.heap.size V wr) := hbel
      clear hm3 hbel HE
      have x10 := HC.out _ HB.out
      by_cases hlt : k < n
      · by_cases hm : m ≤ 20000
        · obtain ⟨a1, c1, q1, _, _, _, h3⟩ := HO.out
          simp at q1
          obtain ⟨rfl, rfl⟩ := q1
          rcases h3 with h3 | ⟨b, off, rfl, h3⟩
          · have : n = 0 := by simpa using congrArg List.length h3
            omega
          have hwr : Below w.heap.size w wr := HV.out.trans (HB.out.mono HV.out.size)
          have HX := HI.out ⟨k, hlt⟩ (oc ⟨k, hlt⟩) m wr (HS.out _ hwr ⟨k, hlt⟩) (HG.out ⟨k, hlt⟩) hm
          obtain ⟨q0, q1, d0, d1, d2, a0, a1, a2, q4, q5, q6, q7, q8, e0, e1, e2, o0, o1, o2, hcs⟩ := rq_forms (HS.out _ hwr ⟨k, hlt⟩)
          have hat : ∀ j, j < 11 → wr.cell? ⟨b, off + k * 11 + j, none⟩ = some ((oc ⟨k, hlt⟩).getD j (.bool false)) := fun j hj => by
            have := cell_later (h3 k (by simpa using hlt) j hj) hwr (Nat.le_refl _)
            simpa using this
          rw [hcs] at hat HX
          have g0 : wr.cell? ⟨b, off + k * 11, none⟩ = some (.int .i8 q0) := hat 0 (by omega)
          have g1 : wr.cell? ⟨b, off + k * 11 + 1, none⟩ = some (.string q1) := hat 1 (by omega)
          have g2 : wr.cell? ⟨b, off + k * 11 + 2, none⟩ = some (.slice d0 d1 d2) := hat 2 (by omega)
          have g3 : wr.cell? ⟨b, off + k * 11 + 3, none⟩ = some (.slice a0 a1 a2) := hat 3 (by omega)
          have g4 : wr.cell? ⟨b, off + k * 11 + 4, none⟩ = some (.int .i32 q4) := hat 4 (by omega)
          have g5 : wr.cell? ⟨b, off + k * 11 + 5, none⟩ = some (.bool q5) := hat 5 (by omega)
          have g6 : wr.cell? ⟨b, off + k * 11 + 6, none⟩ = some (.bool q6) := hat 6 (by omega)
          have g7 : wr.cell? ⟨b, off + k * 11 + 7, none⟩ = some (.int .i64 q7) := hat 7 (by omega)
          have g8 : wr.cell? ⟨b, off + k * 11 + 8, none⟩ = some (.int .i32 q8) := hat 8 (by omega)
          have g9 : wr.cell? ⟨b, off + k * 11 + 9, none⟩ = some (.slice e0 e1 e2) := hat 9 (by omega)
          have g10 : wr.cell? ⟨b, off + k * 11 + 10, none⟩ = some (.slice o0 o1 o2) := hat 10 (by omega)
          have HN : Hid (partsTo ops (k + 1) = partsTo ops k + (ops ⟨k, hlt⟩).parts) := partsTo_next ops k hlt
          clear h3 hat hcs hwr
          go_wp2_with fail
          refine HX.mono ?_
          rintro e w5 ⟨m', rfl, hm1', hm2', hm3', hb⟩
          have HB5 : Hid (Below V.heap.size V w5) := HB.out.trans (hb.mono HB.out.size)
          have HM5 : Hid (m' ≤ 20000 → m' = n0 + fp + partsTo ops (k + 1)) := fun h => by
            have e1 := hm3' h
            have e2 := HM.out hm
            rw [HN.out]
            omega
          clear HX hb hm3' HB HM HN x10 g0 g1 g2 g3 g4 g5 g6 g7 g8 g9 g10
          go_wp2_with fail
          go_roundw
          case rel => exact ⟨k + 1, m', by omega, by go_num, rfl, hm1', by omega, HM5.out, HB5.out⟩
          case measure => simp [intOf]; omega
        · have hm' : decide ((m : Int) ≤ 20000) = false := by simp; omega
          go_wp2_with fail
          go_ret
          exact ⟨m, rfl, hm1, hm2, fun h => absurd h hm, HV.out.trans (HB.out.mono HV.out.size)⟩
      · obtain rfl : k = n := by omega
        go_wp2_with fail
        go_ret
        exact ⟨m, rfl, hm1, hm2, fun h => by rw [HP.out]; have := HM.out h; omega, HV.out.trans (HB.out.mono HV.out.size)⟩
end Go.Proofs.YtljghfglabgckaaDoor
