/- What Spoil, Len and All do. -/
import Derived.Test.YtldcbabgommghaaGreatDoorLkHJ
import Derived.Test.YtldcbabgommghaaGreatDoorLeafSumJ
import Derived.Test.YtldcbabgommghaaGreatDoorCopyTJ
import Derived.Test.YtldcbabgommghaaGreatDoorEqQJ
import Derived.Test.YtldcbabgommghaaGreatDoorBgAJ
import Derived.Test.YtldcbabgommghaaGreatDoorPkQJ
import Derived.Test.YtldcbabgommghaaGreatDoorChk6J
namespace Go.Proofs.YtldcbabgommghaaGreatDoor
open Go.RowKit
set_option maxRecDepth 8000
set_option linter.unusedSimpArgs false
set_option linter.unusedVariables false

theorem fn_spoil (args : Array Value) (w : World) : (callFunc 38 args).run Tryz.prog w = .ok (.enter 38 args) w := rfl
theorem two_allocL (w : World) (a b : Obj) : Below w.heap.size w ((w.alloc a).alloc b) ∧ ((w.alloc a).alloc b).heap[w.heap.size]? = some a ∧ ((w.alloc a).alloc b).heap[w.heap.size + 1]? = some b ∧ ((w.alloc a).alloc b).heap.size = w.heap.size + 2 := by
  have b1 := oneL w a
  have b2 := oneL (w.alloc a) b
  have s1 : (w.alloc a).heap.size = w.heap.size + 1 := World.size_alloc _ _
  have s2 : ((w.alloc a).alloc b).heap.size = w.heap.size + 2 := by rw [World.size_alloc, s1]
  have h2 := heap_alloc_new (w.alloc a) b
  rw [s1] at h2
  exact ⟨b1.trans (b2.mono (by omega)), boxL (heap_alloc_new w a) b2, h2, s2⟩

theorem spoil_no {w : World} {b p : Nat} {n : Int} {v : Value} {l : List MsD} {m : MsD} (h : Nt w b n v l) (hm : l[p]? = some m) (k x : Int) (hE : spE m k x ≠ 0) :
    Calls Tryz.prog 12 #[.pointer (some ⟨b, 0, none⟩), .int .i64 (p : Nat), .int .i64 k, .int .u8 x] w fun e w' => e = .returned (.int .i64 (spE m k x)) ∧ Below w.heap.size w w' := by
  obtain ⟨f1, f2, f3, f4⟩ := two_allocL w (.cells #[.int .i64 k] 3) (.cells #[.int .u8 x] 5)
  obtain ⟨g, cap, rfl, hat⟩ := h.row hm
  have HW : Hid _ := with_yes (h.below f1) p (List.getElem?_eq_some_iff.1 hm).1 38 #[] #[.pointer (some ⟨w.heap.size, 0, none⟩), .pointer (some ⟨w.heap.size + 1, 0, none⟩)] fn_spoil (spoil1_no (hat.below f1) k x f2 f3 hE)
  have HB : Hid _ := f1
  clear h f1 f2 f3 f4 hat hm hE
  generalize spE m k x = E at HW ⊢
  go_enter Tryz.func12, Tryz.ntmps12
  go_wp2_with fail
  refine Calls.mono HW.out ?_
  rintro _ w2 ⟨rfl, rfl⟩
  go_wp2_with fail
  all_goals (go_ret; exact ⟨rfl, below_drewN HB.out 1⟩)

theorem spoil_yes {w : World} {b p k : Nat} {n x : Int} {v : Value} {l : List MsD} {m : MsD} (h : Nt w b n v l) (hm : l[p]? = some m) (x0 : 0 ≤ x) (x1 : x ≤ 255) (hE : spE m (k : Nat) x = 0) :
    Calls Tryz.prog 12 #[.pointer (some ⟨b, 0, none⟩), .int .i64 (p : Nat), .int .i64 (k : Nat), .int .u8 x] w fun e w' => e = .returned (.int .i64 0) ∧ Nt w' b n v (l.set p (spM m k x)) ∧ Kept w w' (fun q => v.ownBlock = some q ∨ q = m.g) := by
  obtain ⟨f1, f2, f3, f4⟩ := two_allocL w (.cells #[.int .i64 (k : Nat)] 3) (.cells #[.int .u8 x] 5)
  obtain ⟨g, cap, rfl, hat⟩ := h.row hm
  have hlt := (h.hm m (List.mem_of_getElem? hm)).lt
  have HW : Hid _ := with_yes (h.below f1) p (List.getElem?_eq_some_iff.1 hm).1 38 #[] #[.pointer (some ⟨w.heap.size, 0, none⟩), .pointer (some ⟨w.heap.size + 1, 0, none⟩)] fn_spoil (spoil1_yes (h.below f1) hm f2 f3 x0 x1 hE (hat.below f1) (by omega))
  have HB : Hid (∀ w', Kept ((w.alloc (.cells #[.int .i64 (k : Nat)] 3)).alloc (.cells #[.int .u8 x] 5)) w' (fun q => q = g ∨ q = m.g) → Kept w w' (fun q => (Value.slice (some ⟨g, 0, none⟩) l.length cap).ownBlock = some q ∨ q = m.g)) := fun w' hk => ((Below.kept f1).mono (S' := fun q => (Value.slice (some ⟨g, 0, none⟩) l.length cap).ownBlock = some q ∨ q = m.g) (fun q h1 h2 => by omega)).trans hk (fun q _ e => e.imp (fun e => by rw [e]; rfl) id)
  clear h f1 f2 f3 f4 hat hm hE hlt x0 x1
  go_enter Tryz.func12, Tryz.ntmps12
  go_wp2_with fail
  refine Calls.mono HW.out ?_
  rintro _ w2 ⟨rfl, hR⟩
  have HR : Hid _ := hR
  clear hR
  go_wp2_with fail
  all_goals (go_ret; exact ⟨rfl, HR.out.1, HB.out _ HR.out.2⟩)

theorem len_anyL {w : World} {b : Nat} {n : Int} {v : Value} {l : List MsD} (h : Nt w b n v l) :
    Calls Tryz.prog 17 #[.pointer (some ⟨b, 0, none⟩)] w fun e w' => e = .returned (.int .i64 l.length) ∧ w' = w := by
  obtain ⟨ao, cap, rfl⟩ := rowSl h.ho
  have c1 := h.c1
  have hz := lt_of_block h.hb
  have HI : Hid (Calls Tryz.prog 34 #[.pointer (some ⟨b, 0, none⟩)] w fun e w' => e = .returned (.bool false) ∧ w' = w) := isNone_noL h
  clear h
  go_enter Tryz.func17, Tryz.ntmps17
  go_wp2_with fail
  refine HI.out.mono ?_
  rintro _ _ ⟨rfl, rfl⟩
  go_wp2_with fail
  all_goals (go_ret; exact ⟨rfl, rfl⟩)

end Go.Proofs.YtldcbabgommghaaGreatDoor

/- works of layer 22 (it is true). -/
namespace Go.Proofs.YtldcbabgommghaaGreatDoor
open Go.RowKit
set_option maxRecDepth 8000
set_option linter.unusedSimpArgs false
set_option linter.unusedVariables false

theorem sees_seven (w : World) : Sees (w.alloc (.cells #[.int .u8 7] 5)) (.slice (some ⟨w.heap.size, 0, none⟩) 1 1) [7] :=
  Sees.own (base := 0) (xs := [7]) ⟨rfl, .inr ⟨w.heap.size, 1, _, rfl, Nat.zero_le _, heap_alloc_new w _, Nat.le_refl _, by unfold maxLen; decide, rfl, rfl⟩⟩

set_option maxHeartbeats 4000000 in
theorem works22 (w : World) : Calls Tryz.prog 4 #[] w fun e w' => e = .returned (.bool true) ∧ Below w.heap.size w w' := by
  have HN : Hid _ := new_good w 2 (by decide) (by decide)
  go_enter Tryz.func4, Tryz.ntmps4
  go_wp2_with fail
  refine Calls.mono HN.out ?_
  rintro e w1 ⟨rfl, h1, b1⟩
  have s1 : w.heap.size < w1.heap.size := lt_of_block h1.hb
  have HS : Hid (Calls Tryz.prog 10 #[.pointer (some ⟨w.heap.size, 0, none⟩), .int .i8 0, .int .i8 1, .slice (some ⟨w1.heap.size, 0, none⟩) 1 1] (w1.alloc (.cells #[.int .u8 7] 5)) fun e w' => e = .returned (.int .i64 0) ∧ ∃ v' R, Nt w' w.heap.size 2 v' [⟨0, 1, [7], false, R, 0, 1⟩] ∧ Below w.heap.size w w' ∧ (∀ k, v'.ownBlock = some k → w.heap.size ≤ k)) := by
    have hB := oneL w1 (.cells #[.int .u8 7] 5)
    refine Calls.mono (send_yes (h1.below hB) 0 1 (by decide) (by decide) (by decide) (by decide) w1.heap.size 0 1 [7] (sees_seven w1) (fun x hx => by simp at hx; subst hx; decide) (by decide) (by decide)) ?_
    rintro _ w2 ⟨rfl, v', R, g1, g2, g3, g4⟩
    have hz := hB.size
    refine ⟨rfl, v', R, g1, (b1.trans (hB.mono (by omega))).trans (Kept.below g2 (B := w.heap.size) (by omega) (fun k e => by
      rcases e with e | e
      · omega
      · simp [Value.ownBlock] at e)), fun k e => ?_⟩
    rcases g3 with h | ⟨k', h, h3⟩
    · rw [h] at e; simp [Value.ownBlock] at e
    · rw [h] at e; simp at e; omega
  clear HN h1 b1
  go_wp2_with fail
  refine Calls.mono HS.out ?_
  rintro _ w2 ⟨rfl, v', R, h2, b2, hv⟩
  have HT : Hid (Calls Tryz.prog 13 #[.pointer (some ⟨w.heap.size, 0, none⟩), .int .i64 0] w2 fun e w' => e = .returned (.tuple #[.agg #[.int .i8 0, .int .i8 1, .slice (some ⟨R, 0, none⟩) 1 1, .bool false], .int .i64 0]) ∧ ∃ v', Nt w' w.heap.size 2 v' [] ∧ Below w.heap.size w w' ∧ Sees w' (.slice (some ⟨R, 0, none⟩) 1 1) [7]) := by
    refine Calls.mono (take_yes (A := []) (B := []) (x := ⟨0, 1, [7], false, R, 0, 1⟩) h2 (Nat.le_of_ble_eq_true rfl)) ?_
    rintro _ w3 ⟨rfl, v2, g1, g2, g3, g4⟩
    exact ⟨rfl, v2, g1, b2.trans (Kept.below g2 (B := w.heap.size) b2.size (fun k e => e.elim (fun e => by omega) (hv k))), g4.sees⟩
  clear HS h2 b2 hv
  go_wp2_with fail
  refine Calls.mono HT.out ?_
  rintro _ w3 ⟨rfl, v3, h3, b3, hs⟩
  clear HT
  obtain ⟨W, hW⟩ : ∃ W, W = (w3.alloc (.cells #[.int .i8 0, .int .i8 1, .slice (some ⟨R, 0, none⟩) 1 1, .bool false] 54)).alloc (.cells #[.int .u8 7] 5) := ⟨_, rfl⟩
  have HQ : Hid (∃ K, Below w.heap.size w W ∧ Nt W w.heap.size 2 K [] ∧ Calls Tryz.prog 16 #[.slice (some ⟨R, 0, none⟩) 1 1, .slice (some ⟨w3.heap.size + 1, 0, none⟩) 1 1] W fun e w' => e = .returned (.bool true) ∧ ∃ n, w' = W.drewN n) := by
    obtain ⟨f1, f2, f3, f4⟩ := two_allocL w3 (.cells #[.int .i8 0, .int .i8 1, .slice (some ⟨R, 0, none⟩) 1 1, .bool false] 54) (.cells #[.int .u8 7] 5)
    rw [← hW] at f1 f2 f3 f4
    refine ⟨v3, b3.trans (f1.mono b3.size), h3.below f1, Calls.mono (eqBytes_any _ _ [7] [7] W (hs.below f1 (Nat.le_refl _)) (Sees.own (base := 0) (xs := [7]) ⟨rfl, .inr ⟨w3.heap.size + 1, 1, _, rfl, Nat.zero_le _, f3, Nat.le_refl _, by unfold maxLen; decide, rfl, rfl⟩⟩)) ?_⟩
    rintro e w' ⟨rfl, n, rfl⟩
    exact ⟨by simp, n, rfl⟩
  clear h3 b3 hs
  go_wp2_with fail
  rw [← hW]
  obtain ⟨K, b4, h4, hc⟩ := HQ.out
  refine Calls.mono hc ?_
  rintro _ w5 ⟨rfl, n, rfl⟩
  have HL : Hid (Calls Tryz.prog 17 #[.pointer (some ⟨w.heap.size, 0, none⟩)] (W.drewN n) fun e w' => e = .returned (.int .i64 0) ∧ w' = W.drewN n) := len_anyL (h4.drewN n)
  have HB : Hid (Below w.heap.size w (W.drewN n)) := below_drewN b4 n
  clear b4 h4 hc HQ hW
  generalize W.drewN n = W5 at *
  go_wp2_with fail
  refine Calls.mono HL.out ?_
  rintro _ w5 ⟨rfl, rfl⟩
  go_wp2_with fail
  all_goals (go_ret; exact ⟨rfl, HB.out⟩)
end Go.Proofs.YtldcbabgommghaaGreatDoor

/- parts, Parts and Large of lagoonref00: how many parts a request has, the count ended early. -/
namespace Go.Proofs.YtldcbabgommghaaGreatDoor
open Go.RowKit
set_option maxRecDepth 8000

theorem Rq.good_inv {f : RqF} {n : Nat} {ops : Fin n → Rq} (h : (Rq.mk f n ops).good) : f.good ∧ n ≤ 140737488355328 ∧ ∀ i : Fin n, (ops i).good := h

set_option maxHeartbeats 2000000 in
theorem parts_any (r : Rq) : ∀ (cs : List Value) (n0 : Nat) (w : World), SeesRq w cs r → r.good → n0 ≤ 20000 →
    Calls Tryz.prog 43 #[.agg cs.toArray, .int .i64 n0] w fun e w' => ∃ m : Nat, e = .returned (.int .i64 m) ∧ m ≤ 500000000000000 ∧ n0 < m ∧ (m ≤ 20000 → m = n0 + r.parts) ∧ Below w.heap.size w w' := by
  induction r with
  | mk f n ops ih =>
    intro cs n0 w hcs hgd hn0
    obtain ⟨dv, av, wv, ov, oc, rfl, hd, ha, hw, ho, hs⟩ := rq_inv hcs
    obtain ⟨gf, gn, gops⟩ := Rq.good_inv hgd
    have g1 := gf.dl
    have g2 := gf.al
    have g3 := gf.wl
    have HP : Hid ((Rq.mk f n ops).parts = f.parts + partsTo ops n) := Rq.parts_eq f n ops
    have HF : Hid (f.parts = 1 + f.data.length + f.acl.length + f.who.length) := rfl
    obtain ⟨kind, path, data, acl, ver, eph, seq, ses, tmo, who⟩ := f
    simp only at hd ha hw g1 g2 g3
    obtain ⟨da, dc, rfl, _⟩ := hd
    obtain ⟨aa, ac, e1⟩ := seesR_shape ha
    obtain ⟨wa, wc', e2⟩ := seesR_shape hw
    obtain ⟨oa, occ, e3⟩ := seesR_shape ho
    rw [List.length_map] at e1 e2
    rw [List.length_ofFn] at e3
    subst e1 e2 e3
    have HO : Hid (SeesR w (.slice oa n occ) 11 (List.ofFn oc)) := ho
    have hcap : n ≤ occ ∧ occ ≤ 9223372036854775807 := by
      obtain ⟨a1, c1, q1, q2, q3, _⟩ := ho
      simp at q1 q2
      unfold maxLen at q3
      omega
    obtain ⟨hcx, hcx'⟩ := hcap
    have HI : Hid _ := ih
    have HS : Hid (∀ W : World, Below w.heap.size w W → ∀ i, SeesRq W (oc i) (ops i)) := fun W hW i => (hs i).later hW (Nat.le_refl _)
    have HG : Hid (∀ i : Fin n, (ops i).good) := gops
    clear ha hw hcs ho ih hs hgd gf gops
    simp only [rqCells]
    generalize edl : data.length = dl at *
    generalize eal : acl.length = al at *
    generalize ewl : who.length = wl at *
    generalize eFP : (⟨kind, path, data, acl, ver, eph, seq, ses, tmo, who⟩ : RqF).parts = fp at *
    have hfp : fp = 1 + dl + al + wl := HF.out
    obtain ⟨V, eV⟩ : ∃ V, V = w.alloc (.cells #[.int .i8 kind, .string path, .slice da dl dc, .slice aa al ac, .int .i32 ver, .bool eph, .bool seq, .int .i64 ses, .int .i32 tmo, .slice wa wl wc', .slice oa n occ] 35) := ⟨_, rfl⟩
    have HV : Hid (Below w.heap.size w V) := by subst eV; exact one_alloc _ _
    have HC : Hid (∀ W, Below V.heap.size V W → W.cell? ⟨w.heap.size, 10, none⟩ = some (.slice oa n occ)) := by
      intro W hW
      have hx : V.heap[w.heap.size]? = some (.cells #[.int .i8 kind, .string path, .slice da dl dc, .slice aa al ac, .int .i32 ver, .bool eph, .bool seq, .int .i64 ses, .int .i32 tmo, .slice wa wl wc', .slice oa n occ] 35 (0, 0)) := by subst eV; exact heap_alloc_new _ _
      have hx' := (Below.kept hW).heap hx (by have := lt_of_block hx; omega)
      rw [cell_of_row _ _ _ _ _ _ hx']; rfl
    have HE : Hid _ := eV
    clear eV HF eFP edl eal ewl
    go_enter Tryz.func43, Tryz.ntmps43
    go_wp2_with fail
    go_loopw [1, 5] (fun nn i wr => ∃ k m : Nat, k ≤ n ∧ i = .int .i64 k ∧ nn = .int .i64 m ∧ m ≤ 500000000000000 ∧ n0 < m ∧ (m ≤ 20000 → m = n0 + fp + partsTo ops k) ∧ Below V.heap.size V wr) (fun _ i _ => n - (intOf i).toNat)
    case atStart => exact ⟨0, n0 + fp, Nat.zero_le _, rfl, by subst hfp; congr 1; push_cast; omega, by omega, by omega, fun _ => by rw [partsTo_zero]; omega, by rw [← HE.out]; exact Below.refl _ _⟩
    case round =>
      obtain ⟨k, m, hk, rfl, rfl, hm1, hm2, hm3, hbel⟩ := hrel
      have HM : Hid (m ≤ 20000 → m = n0 + fp + partsTo ops k) := hm3
      have HB : Hid (Below V.heap.size V wr) := hbel
      clear hm3 hbel HE
      have x10 := HC.out _ HB.out
      by_cases hlt : k < n
      · by_cases hm : m ≤ 20000
        · obtain ⟨a1, c1, q1, _, _, _, h3⟩ := HO.out
          simp at q1
          obtain ⟨rfl, rfl⟩ := q1
          rcases h3 with h3 | ⟨b, off, rfl, h3⟩
          · have : n = 0 := by simpa using congrArg List.length h3
            omega
          have hwr : Below w.heap.size w wr := HV.out.trans (HB.out.mono HV.out.size)
          have HX := HI.out ⟨k, hlt⟩ (oc ⟨k, hlt⟩) m wr (HS.out _ hwr ⟨k, hlt⟩) (HG.out ⟨k, hlt⟩) hm
          obtain ⟨q0, q1, d0, d1, d2, a0, a1, a2, q4, q5, q6, q7, q8, e0, e1, e2, o0, o1, o2, hcs⟩ := rq_forms (HS.out _ hwr ⟨k, hlt⟩)
          have hat : ∀ j, j < 11 → wr.cell? ⟨b, off + k * 11 + j, none⟩ = some ((oc ⟨k, hlt⟩).getD j (.bool false)) := fun j hj => by
            have := cell_later (h3 k (by simpa using hlt) j hj) hwr (Nat.le_refl _)
            simpa using this
          rw [hcs] at hat HX
          have g0 : wr.cell? ⟨b, off + k * 11, none⟩ = some (.int .i8 q0) := hat 0 (by omega)
          have g1 : wr.cell? ⟨b, off + k * 11 + 1, none⟩ = some (.string q1) := hat 1 (by omega)
          have g2 : wr.cell? ⟨b, off + k * 11 + 2, none⟩ = some (.slice d0 d1 d2) := hat 2 (by omega)
          have g3 : wr.cell? ⟨b, off + k * 11 + 3, none⟩ = some (.slice a0 a1 a2) := hat 3 (by omega)
          have g4 : wr.cell? ⟨b, off + k * 11 + 4, none⟩ = some (.int .i32 q4) := hat 4 (by omega)
          have g5 : wr.cell? ⟨b, off + k * 11 + 5, none⟩ = some (.bool q5) := hat 5 (by omega)
          have g6 : wr.cell? ⟨b, off + k * 11 + 6, none⟩ = some (.bool q6) := hat 6 (by omega)
          have g7 : wr.cell? ⟨b, off + k * 11 + 7, none⟩ = some (.int .i64 q7) := hat 7 (by omega)
          have g8 : wr.cell? ⟨b, off + k * 11 + 8, none⟩ = some (.int .i32 q8) := hat 8 (by omega)
          have g9 : wr.cell? ⟨b, off + k * 11 + 9, none⟩ = some (.slice e0 e1 e2) := hat 9 (by omega)
          have g10 : wr.cell? ⟨b, off + k * 11 + 10, none⟩ = some (.slice o0 o1 o2) := hat 10 (by omega)
          have HN : Hid (partsTo ops (k + 1) = partsTo ops k + (ops ⟨k, hlt⟩).parts) := partsTo_next ops k hlt
          clear h3 hat hcs hwr
          go_wp2_with fail
          refine HX.mono ?_
          rintro e w5 ⟨m', rfl, hm1', hm2', hm3', hb⟩
          have HB5 : Hid (Below V.heap.size V w5) := HB.out.trans (hb.mono HB.out.size)
          have HM5 : Hid (m' ≤ 20000 → m' = n0 + fp + partsTo ops (k + 1)) := fun h => by
            have e1 := hm3' h
            have e2 := HM.out hm
            rw [HN.out]
            omega
          clear HX hb hm3' HB HM HN x10 g0 g1 g2 g3 g4 g5 g6 g7 g8 g9 g10
          go_wp2_with fail
          go_roundw
          case rel => exact ⟨k + 1, m', by omega, by go_num, rfl, hm1', by omega, HM5.out, HB5.out⟩
          case measure => simp [intOf]; omega
        · have hm' : decide ((m : Int) ≤ 20000) = false := by simp; omega
          go_wp2_with fail
          go_ret
          exact ⟨m, rfl, hm1, hm2, fun h => absurd h hm, HV.out.trans (HB.out.mono HV.out.size)⟩
      · obtain rfl : k = n := by omega
        go_wp2_with fail
        go_ret
        exact ⟨m, rfl, hm1, hm2, fun h => by rw [HP.out]; have := HM.out h; omega, HV.out.trans (HB.out.mono HV.out.size)⟩
end Go.Proofs.YtldcbabgommghaaGreatDoor

/- Parts, Large and LargeTxns of lagoonref00. -/
namespace Go.Proofs.YtldcbabgommghaaGreatDoor
open Go.RowKit
set_option maxRecDepth 8000

set_option maxHeartbeats 400000 in
theorem bigParts_any (r : Rq) (cs : List Value) (w : World) (h : SeesRq w cs r) (hg : r.good) :
    Calls Tryz.prog 18 #[.agg cs.toArray] w fun e w' => ∃ m : Nat, e = .returned (.int .i64 m) ∧ m ≤ 500000000000000 ∧ 0 < m ∧ (m ≤ 20000 → m = r.parts) ∧ Below w.heap.size w w' := by
  have HX : Hid (∀ W : World, Below w.heap.size w W → Calls Tryz.prog 43 #[.agg cs.toArray, .int .i64 ((0 : Nat) : Int)] W fun e w' => ∃ m : Nat, e = .returned (.int .i64 m) ∧ m ≤ 500000000000000 ∧ 0 < m ∧ (m ≤ 20000 → m = 0 + r.parts) ∧ Below W.heap.size W w') := fun W hW =>
    parts_any r cs 0 W (h.later hW (Nat.le_refl _)) hg (by omega)
  obtain ⟨q0, q1, d0, d1, d2, a0, a1, a2, q4, q5, q6, q7, q8, e0, e1, e2, o0, o1, o2, rfl⟩ := rq_forms h
  have hB := one_alloc w
  clear h hg
  go_enter Tryz.func18, Tryz.ntmps18
  go_wp2_with fail
  refine (HX.out _ (hB _)).mono ?_
  rintro e w1 ⟨m, rfl, h1, h2, h3, b⟩
  have HF : Hid ((m ≤ 20000 → m = r.parts) ∧ Below w.heap.size w w1) := ⟨fun h => by have := h3 h; omega, (hB _).trans (b.mono (by simp))⟩
  clear h3 b hB
  go_wp2
  go_ret
  exact ⟨m, rfl, h1, h2, HF.out.1, HF.out.2⟩

set_option maxHeartbeats 400000 in
theorem large_any (r : Rq) (cs : List Value) (w : World) (h : SeesRq w cs r) (hg : r.good) :
    Calls Tryz.prog 5 #[.agg cs.toArray] w fun e w' => ∃ b : Bool, e = .returned (.bool b) ∧ (b = false → r.parts ≤ 20000) ∧ Below w.heap.size w w' := by
  have HX : Hid (∀ W : World, Below w.heap.size w W → Calls Tryz.prog 18 #[.agg cs.toArray] W fun e w' => ∃ m : Nat, e = .returned (.int .i64 m) ∧ m ≤ 500000000000000 ∧ 0 < m ∧ (m ≤ 20000 → m = r.parts) ∧ Below W.heap.size W w') := fun W hW =>
    bigParts_any r cs W (h.later hW (Nat.le_refl _)) hg
  obtain ⟨q0, q1, d0, d1, d2, a0, a1, a2, q4, q5, q6, q7, q8, e0, e1, e2, o0, o1, o2, rfl⟩ := rq_forms h
  have hB := one_alloc w
  clear h hg
  go_enter Tryz.func5, Tryz.ntmps5
  go_wp2_with fail
  refine (HX.out _ (hB _)).mono ?_
  rintro e w1 ⟨m, rfl, h1, h2, h3, b⟩
  have HF : Hid ((m ≤ 20000 → m = r.parts) ∧ Below w.heap.size w w1) := ⟨h3, (hB _).trans (b.mono (by simp))⟩
  clear h3 b hB
  go_wp2
  go_ret
  refine ⟨_, rfl, fun h => ?_, HF.out.2⟩
  simp at h
  have := HF.out.1 (by omega)
  omega

end Go.Proofs.YtldcbabgommghaaGreatDoor

/- large and lives of the statements of layer 15. -/
namespace Go.Proofs.YtldcbabgommghaaGreatDoor
open Go.RowKit
set_option maxRecDepth 8000

theorem rqSz : (Tryz.prog.info? 35).map (·.size) = some 11 := by kernel_rfl

end Go.Proofs.YtldcbabgommghaaGreatDoor

/- lives of the statements of layer 15. -/
namespace Go.Proofs.YtldcbabgommghaaGreatDoor
open Go.RowKit
set_option maxRecDepth 8000

/-- A row laid down whole in a new variable. -/
theorem row_new (w : World) (Z A : Array Value) (t : TypeId) : Below w.heap.size w ((w.alloc (.cells Z t)).setRow w.heap.size A) ∧ ((w.alloc (.cells Z t)).setRow w.heap.size A).heap[w.heap.size]? = some (.cells A t (0, 0)) := by
  have s1 : (w.alloc (.cells Z t)).heap[w.heap.size]? = some (.cells Z t (0, 0)) := heap_alloc_new _ _
  have ks : Kept (w.alloc (.cells Z t)) ((w.alloc (.cells Z t)).setRow w.heap.size A) (fun k => k = w.heap.size) := ⟨rfl, rfl, rfl, by simp, fun k _ hn => setRow_other _ _ _ _ hn⟩
  exact ⟨(one_alloc w _).trans (ks.below (by simp) (fun k e => by omega)), setRow_heap _ _ _ _ _ _ s1⟩

end Go.Proofs.YtldcbabgommghaaGreatDoor

/- A byte of a packet's bytes, turned: the sum and the bytes no longer fit. No Go function is walked here. -/
namespace Go.Proofs.YtldcbabgommghaaGreatDoor
open Go.RowKit
set_option maxRecDepth 8000

theorem xor_byte15 (x y : Int) (h0 : 0 ≤ x) (h1 : x ≤ 255) (h2 : 0 ≤ y) (h3 : y ≤ 255) : 0 ≤ bits .xor .u8 x y ∧ bits .xor .u8 x y ≤ 255 := by
  rw [u8_xor x y (by omega) (by omega) (by omega) (by omega)]
  have := Nat.xor_lt_two_pow (x := x.toNat) (y := y.toNat) (n := 8) (by omega) (by omega)
  omega
theorem sum_set15 (xs : List Int) (k : Nat) (y : Int) (h : k < xs.length) : (xs.set k y).sum = xs.sum - xs.getD k 0 + y := by
  induction xs generalizing k with
  | nil => simp at h
  | cons x xs ih =>
    cases k with
    | zero => simp; omega
    | succ k =>
      have := ih k (by simpa using h)
      simp [List.set_cons_succ] at this ⊢
      omega

theorem adl_low15 (xs : List Int) : (adl xs).1 = (1 + xs.sum) % 65521 := by
  suffices h : ∀ s : Int × Int, (xs.foldl adlStep s).1 % 65521 = (s.1 + xs.sum) % 65521 by
    have h1 := h (1, 0)
    have h2 := adl_bd xs
    unfold adl at h2 ⊢
    simp only at h1
    omega
  induction xs with
  | nil => intro s; simp
  | cons x xs ih =>
    intro s
    rw [List.foldl_cons, ih, List.sum_cons]
    simp only [adlStep]
    omega

theorem xor_turns15 (x b : Int) (h0 : 0 ≤ x) (h1 : x ≤ 255) (h2 : 0 < b) (h3 : b ≤ 255) : bits .xor .u8 x b ≠ x := by
  rw [u8_xor x b (by omega) (by omega) (by omega) (by omega)]
  intro e
  have e1 : x.toNat ^^^ b.toNat = x.toNat := by omega
  have e2 := congrArg (x.toNat ^^^ ·) e1
  simp only [← Nat.xor_assoc, Nat.xor_self, Nat.zero_xor] at e2
  omega

theorem turned15 (xs : List Int) (k : Nat) (b : Int) (hk : k < xs.length) (hb : Byts xs) (h0 : 0 < b) (h1 : b ≤ 255) : adler xs ≠ adler (xs.set k (bits .xor .u8 (xs.getD k 0) b)) := by
  have hx := hb.nth k
  have hne := xor_turns15 (xs.getD k 0) b hx.1 hx.2 h0 h1
  have hy := xor_byte15 (xs.getD k 0) b hx.1 hx.2 (by omega) h1
  have hs := sum_set15 xs k (bits .xor .u8 (xs.getD k 0) b) hk
  generalize bits .xor .u8 (xs.getD k 0) b = y at *
  have l1 := adl_low15 xs
  have l2 := adl_low15 (xs.set k y)
  have b1 := adl_bd xs
  have b2 := adl_bd (xs.set k y)
  unfold adler
  intro e
  have : (adl xs).1 = (adl (xs.set k y)).1 := by omega
  rw [l1, l2, hs] at this
  omega

theorem be4_num15 {xs : List Int} (hb : Byts xs) (hl : xs.length = 4) : be4 (num xs) = xs := by
  match xs, hl with
  | [a, b, c, d], _ =>
    have ha := hb a (by simp)
    have hb' := hb b (by simp)
    have hc := hb c (by simp)
    have hd := hb d (by simp)
    simp only [num, be4, List.foldl_cons, List.foldl_nil]
    have e1 : (((0 * 256 + a) * 256 + b) * 256 + c) * 256 + d = a * 16777216 + b * 65536 + c * 256 + d := by omega
    rw [e1]
    have q1 : (a * 16777216 + b * 65536 + c * 256 + d) / 16777216 = a := by omega
    have q2 : (a * 16777216 + b * 65536 + c * 256 + d) / 65536 % 256 = b := by omega
    have q3 : (a * 16777216 + b * 65536 + c * 256 + d) / 256 % 256 = c := by omega
    have q4 : (a * 16777216 + b * 65536 + c * 256 + d) % 256 = d := by omega
    rw [q1, q2, q3, q4]

/-- The turned bytes, as a number and what stands behind it: they don't fit. -/
theorem turn_split (body : List Int) (k : Nat) (b : Int) (hb : Byts body) (hk : k < 4 + body.length) (h0 : 0 < b) (h1 : b ≤ 255) :
    ∃ s ys, (be4 (adler body) ++ body).set k (bits .xor .u8 ((be4 (adler body) ++ body).getD k 0) b) = be4 s ++ ys ∧ Byts (be4 s ++ ys) ∧ ys.length = body.length ∧ s ≠ adler ys := by
  have had := adler_bd body
  have h4 : Byts (be4 (adler body)) := byts4 _ had.1 had.2
  by_cases hlt : k < 4
  · have hg : (be4 (adler body) ++ body).getD k 0 = (be4 (adler body)).getD k 0 := by
      simp only [List.getD_eq_getElem?_getD]
      rw [List.getElem?_append_left (by simp [be4]; omega)]
    have hx := h4.nth k
    have hy := xor_byte15 ((be4 (adler body)).getD k 0) b hx.1 hx.2 (by omega) h1
    have hne := xor_turns15 ((be4 (adler body)).getD k 0) b hx.1 hx.2 h0 h1
    rw [hg]
    generalize bits .xor .u8 ((be4 (adler body)).getD k 0) b = y at *
    have hl : ((be4 (adler body)).set k y).length = 4 := by simp [be4]
    have hby : Byts ((be4 (adler body)).set k y) := fun z hz => by
      rcases List.mem_or_eq_of_mem_set hz with h | h
      · exact h4 z h
      · subst h; exact hy
    refine ⟨num ((be4 (adler body)).set k y), body, ?_, ?_, rfl, fun e => ?_⟩
    · rw [List.set_append_left _ _ (by simp [be4]; omega), be4_num15 hby hl]
    · rw [be4_num15 hby hl]; exact hby.append hb
    · have e2 := be4_num15 hby hl
      rw [e] at e2
      apply hne
      have := congrArg (fun l => l.getD k 0) e2
      simp only [List.getD_eq_getElem?_getD] at this ⊢
      rw [List.getElem?_set_self (by simp [be4]; omega)] at this
      simpa using this.symm
  · have hk2 : k - 4 < body.length := by omega
    have hg : (be4 (adler body) ++ body).getD k 0 = body.getD (k - 4) 0 := by
      simp only [List.getD_eq_getElem?_getD]
      rw [List.getElem?_append_right (by simp [be4]; omega)]
      simp [be4]
    have hx := hb.nth (k - 4)
    have hy := xor_byte15 (body.getD (k - 4) 0) b hx.1 hx.2 (by omega) h1
    have ht := turned15 body (k - 4) b hk2 hb h0 h1
    rw [hg]
    generalize bits .xor .u8 (body.getD (k - 4) 0) b = y at *
    refine ⟨adler body, body.set (k - 4) y, ?_, ?_, by simp, ht⟩
    · rw [List.set_append_right _ _ (by simp [be4]; omega)]
      simp [be4]
    · exact h4.append (fun z hz => by
        rcases List.mem_or_eq_of_mem_set hz with h | h
        · exact hb z h
        · subst h; exact hy)
end Go.Proofs.YtldcbabgommghaaGreatDoor

/- Lists of entries and ids in memory, place by place. -/
namespace Go.Proofs.YtldcbabgommghaaGreatDoor
open Go.RowKit
set_option maxRecDepth 8000

theorem cellsEW {w : World} {v : Value} {l : List EnD} (h : SeesR w v 3 (l.map EnD.cells)) : ∃ ao cap, v = .slice ao l.length cap ∧ l.length ≤ cap ∧ Hid (∀ k (hk : k < l.length), ∃ b off, ao = some ⟨b, off, none⟩ ∧ w.cell? ⟨b, off + k * 3, none⟩ = some (.int .i8 l[k].1) ∧ w.cell? ⟨b, off + k * 3 + 1, none⟩ = some (.string l[k].2.1) ∧ w.cell? ⟨b, off + k * 3 + 2, none⟩ = some (.string l[k].2.2)) := by
  obtain ⟨ao, cap, h1, h2, _, _, h3⟩ := h
  rw [List.length_map] at h1 h2
  refine ⟨ao, cap, h1, h2, fun k hk => ?_⟩
  rcases h3 with h3 | ⟨b, off, e, h3⟩
  · have : l.length = 0 := by simpa using congrArg List.length h3
    omega
  · have h := h3 k (by rw [List.length_map]; exact hk)
    refine ⟨b, off, e, ?_, ?_, ?_⟩
    · exact (h 0 (by omega)).trans (by simp [EnD.cells])
    · exact (h 1 (by omega)).trans (by simp [EnD.cells])
    · exact (h 2 (by omega)).trans (by simp [EnD.cells])

theorem cellsIW {w : World} {v : Value} {l : List IdD} (h : SeesR w v 2 (l.map IdD.cells)) : ∃ ao cap, v = .slice ao l.length cap ∧ l.length ≤ cap ∧ Hid (∀ k (hk : k < l.length), ∃ b off, ao = some ⟨b, off, none⟩ ∧ w.cell? ⟨b, off + k * 2, none⟩ = some (.string l[k].1) ∧ w.cell? ⟨b, off + k * 2 + 1, none⟩ = some (.string l[k].2)) := by
  obtain ⟨ao, cap, h1, h2, _, _, h3⟩ := h
  rw [List.length_map] at h1 h2
  refine ⟨ao, cap, h1, h2, fun k hk => ?_⟩
  rcases h3 with h3 | ⟨b, off, e, h3⟩
  · have : l.length = 0 := by simpa using congrArg List.length h3
    omega
  · have h := h3 k (by rw [List.length_map]; exact hk)
    refine ⟨b, off, e, ?_, ?_⟩
    · exact (h 0 (by omega)).trans (by simp [IdD.cells])
    · exact (h 1 (by omega)).trans (by simp [IdD.cells])
end Go.Proofs.YtldcbabgommghaaGreatDoor

/- Letters, has, ids, acl of the document's layer 4. -/
namespace Go.Proofs.YtldcbabgommghaaGreatDoor
open Go.RowKit
set_option maxRecDepth 8000

/-- What a kind names, as the document's letters. -/
def lt4 (k : Int) : ByteArray :=
  if k = 1 then ⟨#[112, 100, 97, 102, 115, 119]⟩ else if k = 2 ∨ k = 5 then ⟨#[112, 118, 115, 119]⟩ else if k = 3 then ⟨#[112, 100, 118, 115, 119]⟩ else if k = 4 then ⟨#[112, 97, 118, 115, 119]⟩
  else if k = 6 then ⟨#[115, 119, 111]⟩ else if k = 7 then ⟨#[116]⟩ else if k = 8 then ⟨#[115]⟩ else if k = 9 ∨ k = 10 ∨ k = 11 ∨ k = 12 then ⟨#[112, 115, 119]⟩ else ⟨#[]⟩

theorem letters_any (k : Int) (w : World) : Calls Tryz.prog 69 #[.int .i8 k] w fun r w' => r = .returned (.string (lt4 k)) ∧ w' = w := by
  go_enter Tryz.func69, Tryz.ntmps69
  go_wp2
  all_goals (go_ret; refine ⟨?_, rfl⟩; unfold lt4; simp at *; simp [*])

/-- Does a text have a letter? -/
def hasB (s : ByteArray) (c : Int) : Bool := s.data.toList.any (fun b => decide ((b.toNat : Int) = c))

theorem hasB_true {s : ByteArray} {c : Int} {i : Nat} (h : i < s.size) (e : ((s[i]).toNat : Int) = c) : hasB s c = true := by
  unfold hasB
  rw [List.any_eq_true]
  refine ⟨s[i], ?_, by simpa using e⟩
  show s.data[i] ∈ s.data.toList
  simp
theorem hasB_false {s : ByteArray} {c : Int} (h : ∀ i (hi : i < s.size), ((s[i]).toNat : Int) ≠ c) : hasB s c = false := by
  unfold hasB
  rw [List.any_eq_false]
  intro b hb
  obtain ⟨i, hi, rfl⟩ := List.getElem_of_mem hb
  have : ((s.data[i]).toNat : Int) ≠ c := h i (by simpa using hi)
  simpa using this

set_option maxHeartbeats 1000000 in
theorem has_any (s : ByteArray) (c : Int) (w : World) (hs : s.size ≤ 1000) : Calls Tryz.prog 70 #[.string s, .int .u8 c] w fun r w' => r = .returned (.bool (hasB s c)) ∧ w' = w := by
  go_enter Tryz.func70, Tryz.ntmps70
  go_wp2
  go_loop [5] (fun i => ∃ k : Nat, k ≤ s.size ∧ i = .int .i64 k ∧ Hid (∀ j (hj : j < s.size), j < k → ((s[j]).toNat : Int) ≠ c)) (fun i => s.size - (intOf i).toNat)
  case atStart => exact ⟨0, Nat.zero_le _, rfl, fun j _ h => by omega⟩
  case round =>
    obtain ⟨k, hk, rfl, HN⟩ := hrel
    by_cases hlt : k < s.size
    · by_cases he : ((s[k]).toNat : Int) = c
      · have HT : Hid (hasB s c = true) := hasB_true hlt he
        have he' : (((s[k]).toNat : Int) == c) = true := by simpa using he
        go_wp2
        all_goals (go_ret; exact ⟨by rw [HT.out]; rfl, rfl⟩)
      · have HN2 : Hid (∀ j (hj : j < s.size), j < k + 1 → ((s[j]).toNat : Int) ≠ c) := fun j hj h => by
          by_cases e : j = k
          · subst e; exact he
          · exact HN.out j hj (by omega)
        have he' : (((s[k]).toNat : Int) == c) = false := by simpa using he
        go_wp2
        go_round
        case rel => exact ⟨k + 1, by omega, by go_num, HN2⟩
        case measure => simp [intOf]; omega
    · have HF : Hid (hasB s c = false) := hasB_false (fun i hi => HN.out i hi (by omega))
      go_wp2
      go_ret
      exact ⟨by rw [HF.out]; rfl, rfl⟩

set_option maxHeartbeats 1000000 in
theorem refIds_any (v : Value) (l : List IdD) (w : World) (h : SeesR w v 2 (l.map IdD.cells)) (hl : l.length ≤ 140737488355328) (hg : ∀ x ∈ l, x.scheme.size ≤ 140737488355328 ∧ x.name.size ≤ 140737488355328) :
    Calls Tryz.prog 72 #[v] w fun r w' => r = .returned (.bool (whoOk l)) ∧ w' = w := by
  obtain ⟨ao, cap, rfl, hlc, HC⟩ := cellsIW h
  have HG : Hid (∀ x ∈ l, x.scheme.size ≤ 140737488355328 ∧ x.name.size ≤ 140737488355328) := hg
  clear h hg
  go_enter Tryz.func72, Tryz.ntmps72
  go_wp2
  go_loop [3] (fun i => ∃ k : Nat, k ≤ l.length ∧ i = .int .i64 k ∧ Hid (∀ x ∈ l.take k, idOk x = true)) (fun i => l.length - (intOf i).toNat)
  case atStart => exact ⟨0, Nat.zero_le _, rfl, fun x hx => by simp at hx⟩
  case round =>
    obtain ⟨k, hk, rfl, HN⟩ := hrel
    by_cases hlt : k < l.length
    · obtain ⟨b, off, rfl, k0, k1⟩ := HC.out k hlt
      obtain ⟨g0, g1⟩ := HG.out l[k] (List.getElem_mem hlt)
      have HM : Hid (l[k] ∈ l ∧ l.take (k + 1) = l.take k ++ [l[k]]) := ⟨List.getElem_mem hlt, List.take_succ_eq_append_getElem hlt⟩
      clear HC HG
      generalize l[k] = x at *
      by_cases ho : idOk x = true
      · have hs : x.scheme.size ≤ 24 ∧ x.name.size ≤ 24 := by unfold idOk at ho; simpa using ho
        obtain ⟨hs0, hs1⟩ := hs
        have HN2 : Hid (∀ y ∈ l.take (k + 1), idOk y = true) := fun y hy => by
          rw [HM.out.2] at hy
          rcases List.mem_append.1 hy with h | h
          · exact HN.out y h
          · obtain rfl : y = x := by simpa using h
            exact ho
        clear HM HN ho
        go_wp2
        go_round
        case rel => exact ⟨k + 1, by omega, by go_num, HN2⟩
        case measure => simp [intOf]; omega
      · have HF : Hid (whoOk l = false) := by
          show _ = _
          unfold whoOk
          rw [Bool.and_eq_false_iff]
          right
          rw [List.all_eq_false]
          exact ⟨x, HM.out.1, ho⟩
        have hs : 24 < x.scheme.size ∨ (x.scheme.size ≤ 24 ∧ 24 < x.name.size) := by unfold idOk at ho; simp at ho; omega
        clear HM HN ho
        rcases hs with hs0 | ⟨hs0, hs1⟩
        · go_wp2
          go_ret
          exact ⟨by rw [HF.out]; rfl, rfl⟩
        · go_wp2
          go_ret
          exact ⟨by rw [HF.out]; rfl, rfl⟩
    · obtain rfl : k = l.length := by omega
      have HT : Hid (whoOk l = decide ((l.length : Int) ≤ 4)) := by
        show _ = _
        unfold whoOk
        have : l.all (fun x => idOk x) = true := by
          rw [List.all_eq_true]
          intro x hx
          exact HN.out x (by rw [List.take_length]; exact hx)
        rw [this, Bool.and_true]
      clear HC HG HN
      go_wp2
      go_ret
      exact ⟨by rw [HT.out]; first | rfl | simp, rfl⟩

set_option maxHeartbeats 1000000 in
theorem refAcl_any (v : Value) (l : List EnD) (w : World) (h : SeesR w v 3 (l.map EnD.cells)) (hl : l.length ≤ 140737488355328) (hg : ∀ x ∈ l, x.id.scheme.size ≤ 140737488355328 ∧ x.id.name.size ≤ 140737488355328) :
    Calls Tryz.prog 71 #[v] w fun r w' => r = .returned (.bool (aclOk l)) ∧ w' = w := by
  obtain ⟨ao, cap, rfl, hlc, HC⟩ := cellsEW h
  have HG : Hid (∀ x ∈ l, x.id.scheme.size ≤ 140737488355328 ∧ x.id.name.size ≤ 140737488355328) := hg
  clear h hg
  go_enter Tryz.func71, Tryz.ntmps71
  go_wp2
  go_loop [3] (fun i => ∃ k : Nat, k ≤ l.length ∧ i = .int .i64 k ∧ Hid (∀ x ∈ l.take k, idOk x.id = true)) (fun i => l.length - (intOf i).toNat)
  case atStart => exact ⟨0, Nat.zero_le _, rfl, fun x hx => by simp at hx⟩
  case round =>
    obtain ⟨k, hk, rfl, HN⟩ := hrel
    by_cases hlt : k < l.length
    · obtain ⟨b, off, rfl, k0, k1, k2⟩ := HC.out k hlt
      obtain ⟨g0, g1⟩ := HG.out l[k] (List.getElem_mem hlt)
      have HM : Hid (l[k] ∈ l ∧ l.take (k + 1) = l.take k ++ [l[k]]) := ⟨List.getElem_mem hlt, List.take_succ_eq_append_getElem hlt⟩
      clear HC HG
      generalize l[k] = x at *
      by_cases ho : idOk x.id = true
      · have hs : x.id.scheme.size ≤ 24 ∧ x.id.name.size ≤ 24 := by unfold idOk at ho; simpa using ho
        obtain ⟨hs0, hs1⟩ := hs
        have HN2 : Hid (∀ y ∈ l.take (k + 1), idOk y.id = true) := fun y hy => by
          rw [HM.out.2] at hy
          rcases List.mem_append.1 hy with h | h
          · exact HN.out y h
          · obtain rfl : y = x := by simpa using h
            exact ho
        clear HM HN ho
        go_wp2
        go_round
        case rel => exact ⟨k + 1, by omega, by go_num, HN2⟩
        case measure => simp [intOf]; omega
      · have HF : Hid (aclOk l = false) := by
          show _ = _
          unfold aclOk
          rw [Bool.and_eq_false_iff]
          right
          rw [List.all_eq_false]
          exact ⟨x, HM.out.1, ho⟩
        have hs : 24 < x.id.scheme.size ∨ (x.id.scheme.size ≤ 24 ∧ 24 < x.id.name.size) := by unfold idOk at ho; simp at ho; omega
        clear HM HN ho
        rcases hs with hs0 | ⟨hs0, hs1⟩
        · go_wp2
          go_ret
          exact ⟨by rw [HF.out]; rfl, rfl⟩
        · go_wp2
          go_ret
          exact ⟨by rw [HF.out]; rfl, rfl⟩
    · obtain rfl : k = l.length := by omega
      have HT : Hid (aclOk l = decide ((l.length : Int) ≤ 4)) := by
        show _ = _
        unfold aclOk
        have : l.all (fun x => idOk x.id) = true := by
          rw [List.all_eq_true]
          intro x hx
          exact HN.out x (by rw [List.take_length]; exact hx)
        rw [this, Bool.and_true]
      clear HC HG HN
      go_wp2
      go_ret
      exact ⟨by rw [HT.out]; first | rfl | simp, rfl⟩
end Go.Proofs.YtldcbabgommghaaGreatDoor

/- May a request be, as the document's letters say. No Go function is walked here. -/
namespace Go.Proofs.YtldcbabgommghaaGreatDoor
open Go.RowKit
set_option maxRecDepth 8000

theorem lt4_size (k : Int) : (lt4 k).size ≤ 1000 := by
  unfold lt4
  repeat' split
  all_goals decide

/-- May a request be, its Ops aside? -/
def mayB (k : Int) (s : ByteArray) (dl al : Nat) (ver : Int) (eph seq : Bool) (ses tmo : Int) (wl ol : Nat) (qa qw : Bool) : Bool :=
  !(lt4 k).toList.isEmpty && !(!s.toList.isEmpty && !hasB (lt4 k) 112 || decide (64 < s.size)) && !(decide (0 < dl) && !hasB (lt4 k) 100 || decide (96 < dl)) && !(decide (0 < al) && !hasB (lt4 k) 97 || !qa) && !(decide (ver ≠ 0) && !hasB (lt4 k) 118) && !((eph || seq) && !hasB (lt4 k) 102) && !(decide (ses ≠ 0) && !hasB (lt4 k) 115 || decide (ses < 0) || (k == 8) && decide (ses < 1)) && !(hasB (lt4 k) 116 && (decide (tmo < 1) || decide (1000 < tmo)) || !hasB (lt4 k) 116 && decide (tmo ≠ 0)) && !(decide (0 < wl) && !hasB (lt4 k) 119 || !qw) && (if hasB (lt4 k) 111 then decide (1 ≤ ol) && decide (ol ≤ 8) else decide (ol = 0))
end Go.Proofs.YtldcbabgommghaaGreatDoor
