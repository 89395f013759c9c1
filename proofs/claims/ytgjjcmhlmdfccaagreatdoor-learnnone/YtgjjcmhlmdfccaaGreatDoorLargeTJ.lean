/- parts, Parts and Large of lagoonref00: how many parts a request has, the count ended early. -/
import Derived.Test.YtgjjcmhlmdfccaaGreatDoorEqQJ
namespace Go.Proofs.YtgjjcmhlmdfccaaGreatDoor
open Go.RowKit
set_option maxRecDepth 8000

theorem Rq.good_inv {f : RqF} {n : Nat} {ops : Fin n → Rq} (h : (Rq.mk f n ops).good) : f.good ∧ n ≤ 140737488355328 ∧ ∀ i : Fin n, (ops i).good := h

set_option maxHeartbeats 2000000 in
theorem parts_any (r : Rq) : ∀ (cs : List Value) (n0 : Nat) (w : World), SeesRq w cs r → r.good → n0 ≤ 20000 →
    Calls Tryz.prog 21 #[.agg cs.toArray, .int .i64 n0] w fun e w' => ∃ m : Nat, e = .returned (.int .i64 m) ∧ m ≤ 500000000000000 ∧ n0 < m ∧ (m ≤ 20000 → m = n0 + r.parts) ∧ Below w.heap.size w w' := by
  induction r with
  | mk f n ops ih =>
    intro cs n0 w hcs hgd hn0
    obtain ⟨dv, av, wv, ov, oc, rfl, hd, ha, hw, ho, hs⟩ := rq_inv hcs
    obtain ⟨gf, gn, gops⟩ := Rq.good_inv hgd
    have g1 := gf.dl
    have g2 := gf.al
    have g3 := gf.wl
    have HP : Hid ((Rq.mk f n ops).parts = f.parts + partsTo ops n) := Rq.parts_eq f n ops
    have HF : Hid (f.parts = 1 + f.data.length + f.acl.length + f.who.length) := rfl
    obtain ⟨kind, path, data, acl, ver, eph, seq, ses, tmo, who⟩ := f
    simp only at hd ha hw g1 g2 g3
    obtain ⟨da, dc, rfl, _⟩ := hd
    obtain ⟨aa, ac, e1⟩ := seesR_shape ha
    obtain ⟨wa, wc', e2⟩ := seesR_shape hw
    obtain ⟨oa, occ, e3⟩ := seesR_shape ho
    rw [List.length_map] at e1 e2
    rw [List.length_ofFn] at e3
    subst e1 e2 e3
    have HO : Hid (SeesR w (.slice oa n occ) 11 (List.ofFn oc)) := ho
    have hcap : n ≤ occ ∧ occ ≤ 9223372036854775807 := by
      obtain ⟨a1, c1, q1, q2, q3, _⟩ := ho
      simp at q1 q2
      unfold maxLen at q3
      omega
    obtain ⟨hcx, hcx'⟩ := hcap
    have HI : Hid _ := ih
    have HS : Hid (∀ W : World, Below w.heap.size w W → ∀ i, SeesRq W (oc i) (ops i)) := fun W hW i => (hs i).later hW (Nat.le_refl _)
    have HG : Hid (∀ i : Fin n, (ops i).good) := gops
    clear ha hw hcs ho ih hs hgd gf gops
    simp only [rqCells]
    generalize edl : data.length = dl at *
    generalize eal : acl.length = al at *
    generalize ewl : who.length = wl at *
    generalize eFP : (⟨kind, path, data, acl, ver, eph, seq, ses, tmo, who⟩ : RqF).parts = fp at *
    have hfp : fp = 1 + dl + al + wl := HF.out
    obtain ⟨V, eV⟩ : ∃ V, V = w.alloc (.cells #[.int .i8 kind, .string path, .slice da dl dc, .slice aa al ac, .int .i32 ver, .bool eph, .bool seq, .int .i64 ses, .int .i32 tmo, .slice wa wl wc', .slice oa n occ] 35) := ⟨_, rfl⟩
    have HV : Hid (Below w.heap.size w V) := by subst eV; exact one_alloc _ _
    have HC : Hid (∀ W, Below V.heap.size V W → W.cell? ⟨w.heap.size, 10, none⟩ = some (.slice oa n occ)) := by
      intro W hW
      have hx : V.heap[w.heap.size]? = some (.cells #[.int .i8 kind, .string path, .slice da dl dc, .slice aa al ac, .int .i32 ver, .bool eph, .bool seq, .int .i64 ses, .int .i32 tmo, .slice wa wl wc', .slice oa n occ] 35 (0, 0)) := by subst eV; exact heap_alloc_new _ _
      have hx' := (Below.kept hW).heap hx (by have := lt_of_block hx; omega)
      rw [cell_of_row _ _ _ _ _ _ hx']; rfl
    have HE : Hid _ := eV
    clear eV HF eFP edl eal ewl
    go_enter Tryz.func21, Tryz.ntmps21
    go_wp2_with fail
    go_loopw [1, 5] (fun nn i wr => ∃ k m : Nat, k ≤ n ∧ i = .int .i64 k ∧ nn = .int .i64 m ∧ m ≤ 500000000000000 ∧ n0 < m ∧ (m ≤ 20000 → m = n0 + fp + partsTo ops k) ∧ Below V.heap.size V wr) (fun _ i _ => n - (intOf i).toNat)
    case atStart => exact ⟨0, n0 + fp, Nat.zero_le _, rfl, by subst hfp; congr 1; push_cast; omega, by omega, by omega, fun _ => by rw [partsTo_zero]; omega, by rw [← HE.out]; exact Below.refl _ _⟩
    case round =>
      obtain ⟨k, m, hk, rfl, rfl, hm1, hm2, hm3, hbel⟩ := hrel
      have HM : Hid (m ≤ 20000 → m = n0 + fp + partsTo ops k) := hm3
      have HB : Hid (Below V.heap.size V wr) := hbel
      clear hm3 hbel HE
      have x10 := HC.out _ HB.out
      by_cases hlt : k < n
      · by_cases hm : m ≤ 20000
        · obtain ⟨a1, c1, q1, _, _, _, h3⟩ := HO.out
          simp at q1
          obtain ⟨rfl, rfl⟩ := q1
          rcases h3 with h3 | ⟨b, off, rfl, h3⟩
          · have : n = 0 := by simpa using congrArg List.length h3
            omega
          have hwr : Below w.heap.size w wr := HV.out.trans (HB.out.mono HV.out.size)
          have HX := HI.out ⟨k, hlt⟩ (oc ⟨k, hlt⟩) m wr (HS.out _ hwr ⟨k, hlt⟩) (HG.out ⟨k, hlt⟩) hm
          obtain ⟨q0, q1, d0, d1, d2, a0, a1, a2, q4, q5, q6, q7, q8, e0, e1, e2, o0, o1, o2, hcs⟩ := rq_forms (HS.out _ hwr ⟨k, hlt⟩)
          have hat : ∀ j, j < 11 → wr.cell? ⟨b, off + k * 11 + j, none⟩ = some ((oc ⟨k, hlt⟩).getD j (.bool false)) := fun j hj => by
            have := cell_later (h3 k (by simpa using hlt) j hj) hwr (Nat.le_refl _)
            simpa using this
          rw [hcs] at hat HX
          have g0 : wr.cell? ⟨b, off + k * 11, none⟩ = some (.int .i8 q0) := hat 0 (by omega)
          have g1 : wr.cell? ⟨b, off + k * 11 + 1, none⟩ = some (.string q1) := hat 1 (by omega)
          have g2 : wr.cell? ⟨b, off + k * 11 + 2, none⟩ = some (.slice d0 d1 d2) := hat 2 (by omega)
          have g3 : wr.cell? ⟨b, off + k * 11 + 3, none⟩ = some (.slice a0 a1 a2) := hat 3 (by omega)
          have g4 : wr.cell? ⟨b, off + k * 11 + 4, none⟩ = some (.int .i32 q4) := hat 4 (by omega)
          have g5 : wr.cell? ⟨b, off + k * 11 + 5, none⟩ = some (.bool q5) := hat 5 (by omega)
          have g6 : wr.cell? ⟨b, off + k * 11 + 6, none⟩ = some (.bool q6) := hat 6 (by omega)
          have g7 : wr.cell? ⟨b, off + k * 11 + 7, none⟩ = some (.int .i64 q7) := hat 7 (by omega)
          have g8 : wr.cell? ⟨b, off + k * 11 + 8, none⟩ = some (.int .i32 q8) := hat 8 (by omega)
          have g9 : wr.cell? ⟨b, off + k * 11 + 9, none⟩ = some (.slice e0 e1 e2) := hat 9 (by omega)
          have g10 : wr.cell? ⟨b, off + k * 11 + 10, none⟩ = some (.slice o0 o1 o2) := hat 10 (by omega)
          have HN : Hid (partsTo ops (k + 1) = partsTo ops k + (ops ⟨k, hlt⟩).parts) := partsTo_next ops k hlt
          clear h3 hat hcs hwr
          go_wp2_with fail
          refine HX.mono ?_
          rintro e w5 ⟨m', rfl, hm1', hm2', hm3', hb⟩
          have HB5 : Hid (Below V.heap.size V w5) := HB.out.trans (hb.mono HB.out.size)
          have HM5 : Hid (m' ≤ 20000 → m' = n0 + fp + partsTo ops (k + 1)) := fun h => by
            have e1 := hm3' h
            have e2 := HM.out hm
            rw [HN.out]
            omega
          clear HX hb hm3' HB HM HN x10 g0 g1 g2 g3 g4 g5 g6 g7 g8 g9 g10
          go_wp2_with fail
          go_roundw
          case rel => exact ⟨k + 1, m', by omega, by go_num, rfl, hm1', by omega, HM5.out, HB5.out⟩
          case measure => simp [intOf]; omega
        · have hm' : decide ((m : Int) ≤ 20000) = false := by simp; omega
          go_wp2_with fail
          go_ret
          exact ⟨m, rfl, hm1, hm2, fun h => absurd h hm, HV.out.trans (HB.out.mono HV.out.size)⟩
      · obtain rfl : k = n := by omega
        go_wp2_with fail
        go_ret
        exact ⟨m, rfl, hm1, hm2, fun h => by rw [HP.out]; have := HM.out h; omega, HV.out.trans (HB.out.mono HV.out.size)⟩
end Go.Proofs.YtgjjcmhlmdfccaaGreatDoor

/- Parts, Large and LargeTxns of lagoonref00. -/
namespace Go.Proofs.YtgjjcmhlmdfccaaGreatDoor
open Go.RowKit
set_option maxRecDepth 8000

set_option maxHeartbeats 400000 in
theorem bigParts_any (r : Rq) (cs : List Value) (w : World) (h : SeesRq w cs r) (hg : r.good) :
    Calls Tryz.prog 10 #[.agg cs.toArray] w fun e w' => ∃ m : Nat, e = .returned (.int .i64 m) ∧ m ≤ 500000000000000 ∧ 0 < m ∧ (m ≤ 20000 → m = r.parts) ∧ Below w.heap.size w w' := by
  have HX : Hid (∀ W : World, Below w.heap.size w W → Calls Tryz.prog 21 #[.agg cs.toArray, .int .i64 ((0 : Nat) : Int)] W fun e w' => ∃ m : Nat, e = .returned (.int .i64 m) ∧ m ≤ 500000000000000 ∧ 0 < m ∧ (m ≤ 20000 → m = 0 + r.parts) ∧ Below W.heap.size W w') := fun W hW =>
    parts_any r cs 0 W (h.later hW (Nat.le_refl _)) hg (by omega)
  obtain ⟨q0, q1, d0, d1, d2, a0, a1, a2, q4, q5, q6, q7, q8, e0, e1, e2, o0, o1, o2, rfl⟩ := rq_forms h
  have hB := one_alloc w
  clear h hg
  go_enter Tryz.func10, Tryz.ntmps10
  go_wp2_with fail
  refine (HX.out _ (hB _)).mono ?_
  rintro e w1 ⟨m, rfl, h1, h2, h3, b⟩
  have HF : Hid ((m ≤ 20000 → m = r.parts) ∧ Below w.heap.size w w1) := ⟨fun h => by have := h3 h; omega, (hB _).trans (b.mono (by simp))⟩
  clear h3 b hB
  go_wp2
  go_ret
  exact ⟨m, rfl, h1, h2, HF.out.1, HF.out.2⟩

set_option maxHeartbeats 400000 in
theorem large_any (r : Rq) (cs : List Value) (w : World) (h : SeesRq w cs r) (hg : r.good) :
    Calls Tryz.prog 4 #[.agg cs.toArray] w fun e w' => ∃ b : Bool, e = .returned (.bool b) ∧ (b = false → r.parts ≤ 20000) ∧ Below w.heap.size w w' := by
  have HX : Hid (∀ W : World, Below w.heap.size w W → Calls Tryz.prog 10 #[.agg cs.toArray] W fun e w' => ∃ m : Nat, e = .returned (.int .i64 m) ∧ m ≤ 500000000000000 ∧ 0 < m ∧ (m ≤ 20000 → m = r.parts) ∧ Below W.heap.size W w') := fun W hW =>
    bigParts_any r cs W (h.later hW (Nat.le_refl _)) hg
  obtain ⟨q0, q1, d0, d1, d2, a0, a1, a2, q4, q5, q6, q7, q8, e0, e1, e2, o0, o1, o2, rfl⟩ := rq_forms h
  have hB := one_alloc w
  clear h hg
  go_enter Tryz.func4, Tryz.ntmps4
  go_wp2_with fail
  refine (HX.out _ (hB _)).mono ?_
  rintro e w1 ⟨m, rfl, h1, h2, h3, b⟩
  have HF : Hid ((m ≤ 20000 → m = r.parts) ∧ Below w.heap.size w w1) := ⟨h3, (hB _).trans (b.mono (by simp))⟩
  clear h3 b hB
  go_wp2
  go_ret
  refine ⟨_, rfl, fun h => ?_, HF.out.2⟩
  simp at h
  have := HF.out.1 (by omega)
  omega

/-- A transaction of a list, its cells. -/
theorem txs_at {w : World} {v : Value} {l : List TxD} (h : SeesTxs w v l) (k : Nat) (hk : k < l.length) : ∃ b off cap rc, v = .slice (some ⟨b, off, none⟩) l.length cap ∧ l.length ≤ cap ∧ cap ≤ maxLen ∧ SeesRq w rc l[k].rq ∧ ∀ j, j < 16 → w.cell? ⟨b, off + k * 16 + j, none⟩ = some ((txHead l[k] ++ rc).getD j (.bool false)) := by
  obtain ⟨cs, ⟨ao, cap, rfl, h1, h2, h0, h3⟩, hl, hs⟩ := h
  rcases h3 with h3 | ⟨b, off, rfl, h3⟩
  · have : cs.length = 0 := by rw [h3]; rfl
    omega
  · obtain ⟨rc, e, hr⟩ := hs k (by omega) hk
    refine ⟨b, off, cap, rc, by rw [hl], by omega, h2, hr, fun j hj => ?_⟩
    rw [h3 k (by omega) j hj, e]

theorem txs_shape {w : World} {v : Value} {l : List TxD} (h : SeesTxs w v l) : ∃ a c, v = .slice a l.length c ∧ l.length ≤ c ∧ c ≤ maxLen := by
  obtain ⟨cs, ⟨ao, cap, rfl, h1, h2, _⟩, hl, _⟩ := h
  exact ⟨ao, cap, by rw [hl], by omega, h2⟩

end Go.Proofs.YtgjjcmhlmdfccaaGreatDoor
