import Derived.Test.YtgeoocchdpehdaaGreatDoorEqQJ
import Derived.Test.YtgeoocchdpehdaaGreatDoorPkWJ
import Derived.Test.YtgeoocchdpehdaaGreatDoorPkBJ
import Derived.Test.YtgeoocchdpehdaaGreatDoorChk3J
namespace Go.Proofs.YtgeoocchdpehdaaGreatDoor
open Go.RowKit
set_option maxRecDepth 8000

theorem Rq.good_inv {f : RqF} {n : Nat} {ops : Fin n → Rq} (h : (Rq.mk f n ops).good) : f.good ∧ n ≤ 140737488355328 ∧ ∀ i : Fin n, (ops i).good := h

set_option maxHeartbeats 2000000 in
theorem parts_any (r : Rq) : ∀ (cs : List Value) (n0 : Nat) (w : World), SeesRq w cs r → r.good → n0 ≤ 20000 →
    Calls Tryz.prog 48 #[.agg cs.toArray, .int .i64 n0] w fun e w' => ∃ m : Nat, e = .returned (.int .i64 m) ∧ m ≤ 500000000000000 ∧ n0 < m ∧ (m ≤ 20000 → m = n0 + r.parts) ∧ Below w.heap.size w w' := by
  induction r with
  | mk f n ops ih =>
    intro cs n0 w hcs hgd hn0
    obtain ⟨dv, av, wv, ov, oc, rfl, hd, ha, hw, ho, hs⟩ := rq_inv hcs
    obtain ⟨gf, gn, gops⟩ := Rq.good_inv hgd
    have g1 := gf.dl
    have g2 := gf.al
    have g3 := gf.wl
    have HP : Hid ((Rq.mk f n ops).parts = f.parts + partsTo ops n) := Rq.parts_eq f n ops
    have HF : Hid (f.parts = 1 + f.data.length + f.acl.length + f.who.length) := rfl
    obtain ⟨kind, path, data, acl, ver, eph, seq, ses, tmo, who⟩ := f
    simp only at hd ha hw g1 g2 g3
    obtain ⟨da, dc, rfl, _⟩ := hd
    obtain ⟨aa, ac, e1⟩ := seesR_shape ha
    obtain ⟨wa, wc', e2⟩ := seesR_shape hw
    obtain ⟨oa, occ, e3⟩ := seesR_shape ho
    rw [List.length_map] at e1 e2
    rw [List.length_ofFn] at e3
    subst e1 e2 e3
    have HO : Hid (SeesR w (.slice oa n occ) 11 (List.ofFn oc)) := ho
    have hcap : n ≤ occ ∧ occ ≤ 9223372036854775807 := by
      obtain ⟨a1, c1, q1, q2, q3, _⟩ := ho
      simp at q1 q2
      unfold maxLen at q3
      omega
    obtain ⟨hcx, hcx'⟩ := hcap
    have HI : Hid _ := ih
    have HS : Hid (∀ W : World, Below w.heap.size w W → ∀ i, SeesRq W (oc i) (ops i)) := fun W hW i => (hs i).later hW (Nat.le_refl _)
    have HG : Hid (∀ i : Fin n, (ops i).good) := gops
    clear ha hw hcs ho ih hs hgd gf gops
    simp only [rqCells]
    generalize edl : data.length = dl at *
    generalize eal : acl.length = al at *
    generalize ewl : who.length = wl at *
    generalize eFP : (⟨kind, path, data, acl, ver, eph, seq, ses, tmo, who⟩ : RqF).parts = fp at *
    have hfp : fp = 1 + dl + al + wl := HF.out
    obtain ⟨V, eV⟩ : ∃ V, V = w.alloc (.cells #[.int .i8 kind, .string path, .slice da dl dc, .slice aa al ac, .int .i32 ver, .bool eph, .bool seq, .int .i64 ses, .int .i32 tmo, .slice wa wl wc', .slice oa n occ] 35) := ⟨_, rfl⟩
    have HV : Hid (Below w.heap.size w V) := by subst eV; exact one_alloc _ _
    have HC : Hid (∀ W, Below V.heap.size V W → W.cell? ⟨w.heap.size, 10, none⟩ = some (.slice oa n occ)) := by
      intro W hW
      have hx : V.heap[w.heap.size]? = some (.cells #[.int .i8 kind, .string path, .slice da dl dc, .slice aa al ac, .int .i32 ver, .bool eph, .bool seq, .int .i64 ses, .int .i32 tmo, .slice wa wl wc', .slice oa n occ] 35 (0, 0)) := by subst eV; exact heap_alloc_new _ _
      have hx' := (Below.kept hW).heap hx (by have := lt_of_block hx; omega)
      rw [cell_of_row _ _ _ _ _ _ hx']; rfl
    have HE : Hid _ := eV
    clear eV HF eFP edl eal ewl
    go_enter Tryz.func48, Tryz.ntmps48
    go_wp2_with fail
    go_loopw [1, 5] (fun nn i wr => ∃ k m : Nat, k ≤ n ∧ i = .int .i64 k ∧ nn = .int .i64 m ∧ m ≤ 500000000000000 ∧ n0 < m ∧ (m ≤ 20000 → m = n0 + fp + partsTo ops k) ∧ Below V.heap.size V wr) (fun _ i _ => n - (intOf i).toNat)
    case atStart => exact ⟨0, n0 + fp, Nat.zero_le _, rfl, by subst hfp; congr 1; push_cast; omega, by omega, by omega, fun _ => by rw [partsTo_zero]; omega, by rw [← HE.out]; exact Below.refl _ _⟩
    case round =>
      obtain ⟨k, m, hk, rfl, rfl, hm1, hm2, hm3, hbel⟩ := hrel
      have HM : Hid (m ≤ 20000 → m = n0 + fp + partsTo ops k) := hm3
      have HB : Hid (Below V.heap.size V wr) := hbel
      clear hm3 hbel HE
      have x10 := HC.out _ HB.out
      by_cases hlt : k < n
      · by_cases hm : m ≤ 20000
        · obtain ⟨a1, c1, q1, _, _, _, h3⟩ := HO.out
          simp at q1
          obtain ⟨rfl, rfl⟩ := q1
          rcases h3 with h3 | ⟨b, off, rfl, h3⟩
          · have : n = 0 := by simpa using congrArg List.length h3
            omega
          have hwr : Below w.heap.size w wr := HV.out.trans (HB.out.mono HV.out.size)
          have HX := HI.out ⟨k, hlt⟩ (oc ⟨k, hlt⟩) m wr (HS.out _ hwr ⟨k, hlt⟩) (HG.out ⟨k, hlt⟩) hm
          obtain ⟨q0, q1, d0, d1, d2, a0, a1, a2, q4, q5, q6, q7, q8, e0, e1, e2, o0, o1, o2, hcs⟩ := rq_forms (HS.out _ hwr ⟨k, hlt⟩)
          have hat : ∀ j, j < 11 → wr.cell? ⟨b, off + k * 11 + j, none⟩ = some ((oc ⟨k, hlt⟩).getD j (.bool false)) := fun j hj => by
            have := cell_later (h3 k (by simpa using hlt) j hj) hwr (Nat.le_refl _)
            simpa using this
          rw [hcs] at hat HX
          have g0 : wr.cell? ⟨b, off + k * 11, none⟩ = some (.int .i8 q0) := hat 0 (by omega)
          have g1 : wr.cell? ⟨b, off + k * 11 + 1, none⟩ = some (.string q1) := hat 1 (by omega)
          have g2 : wr.cell? ⟨b, off + k * 11 + 2, none⟩ = some (.slice d0 d1 d2) := hat 2 (by omega)
          have g3 : wr.cell? ⟨b, off + k * 11 + 3, none⟩ = some (.slice a0 a1 a2) := hat 3 (by omega)
          have g4 : wr.cell? ⟨b, off + k * 11 + 4, none⟩ = some (.int .i32 q4) := hat 4 (by omega)
          have g5 : wr.cell? ⟨b, off + k * 11 + 5, none⟩ = some (.bool q5) := hat 5 (by omega)
          have g6 : wr.cell? ⟨b, off + k * 11 + 6, none⟩ = some (.bool q6) := hat 6 (by omega)
          have g7 : wr.cell? ⟨b, off + k * 11 + 7, none⟩ = some (.int .i64 q7) := hat 7 (by omega)
          have g8 : wr.cell? ⟨b, off + k * 11 + 8, none⟩ = some (.int .i32 q8) := hat 8 (by omega)
          have g9 : wr.cell? ⟨b, off + k * 11 + 9, none⟩ = some (.slice e0 e1 e2) := hat 9 (by omega)
          have g10 : wr.cell? ⟨b, off + k * 11 + 10, none⟩ = some (.slice o0 o1 o2) := hat 10 (by omega)
          have HN : Hid (partsTo ops (k + 1) = partsTo ops k + (ops ⟨k, hlt⟩).parts) := partsTo_next ops k hlt
          clear h3 hat hcs hwr
          go_wp2_with fail
          refine HX.mono ?_
          rintro e w5 ⟨m', rfl, hm1', hm2', hm3', hb⟩
          have HB5 : Hid (Below V.heap.size V w5) := HB.out.trans (hb.mono HB.out.size)
          have HM5 : Hid (m' ≤ 20000 → m' = n0 + fp + partsTo ops (k + 1)) := fun h => by
            have e1 := hm3' h
            have e2 := HM.out hm
            rw [HN.out]
            omega
          clear HX hb hm3' HB HM HN x10 g0 g1 g2 g3 g4 g5 g6 g7 g8 g9 g10
          go_wp2_with fail
          go_roundw
          case rel => exact ⟨k + 1, m', by omega, by go_num, rfl, hm1', by omega, HM5.out, HB5.out⟩
          case measure => simp [intOf]; omega
        · have hm' : decide ((m : Int) ≤ 20000) = false := by simp; omega
          go_wp2_with fail
          go_ret
          exact ⟨m, rfl, hm1, hm2, fun h => absurd h hm, HV.out.trans (HB.out.mono HV.out.size)⟩
      · obtain rfl : k = n := by omega
        go_wp2_with fail
        go_ret
        exact ⟨m, rfl, hm1, hm2, fun h => by rw [HP.out]; have := HM.out h; omega, HV.out.trans (HB.out.mono HV.out.size)⟩
end Go.Proofs.YtgeoocchdpehdaaGreatDoor

namespace Go.Proofs.YtgeoocchdpehdaaGreatDoor
open Go.RowKit
set_option maxRecDepth 8000

set_option maxHeartbeats 400000 in
theorem bigParts_any (r : Rq) (cs : List Value) (w : World) (h : SeesRq w cs r) (hg : r.good) :
    Calls Tryz.prog 31 #[.agg cs.toArray] w fun e w' => ∃ m : Nat, e = .returned (.int .i64 m) ∧ m ≤ 500000000000000 ∧ 0 < m ∧ (m ≤ 20000 → m = r.parts) ∧ Below w.heap.size w w' := by
  have HX : Hid (∀ W : World, Below w.heap.size w W → Calls Tryz.prog 48 #[.agg cs.toArray, .int .i64 ((0 : Nat) : Int)] W fun e w' => ∃ m : Nat, e = .returned (.int .i64 m) ∧ m ≤ 500000000000000 ∧ 0 < m ∧ (m ≤ 20000 → m = 0 + r.parts) ∧ Below W.heap.size W w') := fun W hW =>
    parts_any r cs 0 W (h.later hW (Nat.le_refl _)) hg (by omega)
  obtain ⟨q0, q1, d0, d1, d2, a0, a1, a2, q4, q5, q6, q7, q8, e0, e1, e2, o0, o1, o2, rfl⟩ := rq_forms h
  have hB := one_alloc w
  clear h hg
  go_enter Tryz.func31, Tryz.ntmps31
  go_wp2_with fail
  refine (HX.out _ (hB _)).mono ?_
  rintro e w1 ⟨m, rfl, h1, h2, h3, b⟩
  have HF : Hid ((m ≤ 20000 → m = r.parts) ∧ Below w.heap.size w w1) := ⟨fun h => by have := h3 h; omega, (hB _).trans (b.mono (by simp))⟩
  clear h3 b hB
  go_wp2
  go_ret
  exact ⟨m, rfl, h1, h2, HF.out.1, HF.out.2⟩

set_option maxHeartbeats 400000 in
theorem large_any (r : Rq) (cs : List Value) (w : World) (h : SeesRq w cs r) (hg : r.good) :
    Calls Tryz.prog 11 #[.agg cs.toArray] w fun e w' => ∃ b : Bool, e = .returned (.bool b) ∧ (b = false → r.parts ≤ 20000) ∧ Below w.heap.size w w' := by
  have HX : Hid (∀ W : World, Below w.heap.size w W → Calls Tryz.prog 31 #[.agg cs.toArray] W fun e w' => ∃ m : Nat, e = .returned (.int .i64 m) ∧ m ≤ 500000000000000 ∧ 0 < m ∧ (m ≤ 20000 → m = r.parts) ∧ Below W.heap.size W w') := fun W hW =>
    bigParts_any r cs W (h.later hW (Nat.le_refl _)) hg
  obtain ⟨q0, q1, d0, d1, d2, a0, a1, a2, q4, q5, q6, q7, q8, e0, e1, e2, o0, o1, o2, rfl⟩ := rq_forms h
  have hB := one_alloc w
  clear h hg
  go_enter Tryz.func11, Tryz.ntmps11
  go_wp2_with fail
  refine (HX.out _ (hB _)).mono ?_
  rintro e w1 ⟨m, rfl, h1, h2, h3, b⟩
  have HF : Hid ((m ≤ 20000 → m = r.parts) ∧ Below w.heap.size w w1) := ⟨h3, (hB _).trans (b.mono (by simp))⟩
  clear h3 b hB
  go_wp2
  go_ret
  refine ⟨_, rfl, fun h => ?_, HF.out.2⟩
  simp at h
  have := HF.out.1 (by omega)
  omega

end Go.Proofs.YtgeoocchdpehdaaGreatDoor

namespace Go.Proofs.YtgeoocchdpehdaaGreatDoor
open Go.RowKit
set_option maxRecDepth 8000

theorem rqSz : (Tryz.prog.info? 35).map (·.size) = some 11 := by kernel_rfl

set_option maxHeartbeats 1000000 in
theorem large15 (p : PkD) (tc : List Value) (bv : Value) (w : World) (hg : p.good) (hs : SeesPk w tc bv p) :
    Calls Tryz.prog 4 #[.agg (pkL p tc bv).toArray] w fun r w' => ∃ b : Bool, r = .returned (.bool b) ∧ Below w.heap.size w w' := by
  obtain ⟨W, HE, HW⟩ := pk_box p tc bv w
  obtain ⟨ao, cap, rfl⟩ : ∃ ao cap, bv = .slice ao p.bys.length cap := by obtain ⟨ao, cap, h, _⟩ := hs.bys; exact ⟨ao, cap, h⟩
  have c30 := (HW.out.2.tail hs.tx.len).2.1
  obtain ⟨rc, hrc, hr⟩ := id hs.tx
  have l19 : W.rangeAt w.heap.size 19 rc := fun j v hj => by
    have := (HW.out.2.tail hs.tx.len).1 (5 + j) v (by rw [hrc, List.getElem?_append_right (by simp [txHead])]; simpa [txHead] using hj)
    rw [show 14 + (5 + j) = 19 + j by omega] at this
    exact this
  have q11 : (Tryz.prog.info? 35).map (·.size) = some rc.length := by rw [hr.len]; exact rqSz
  have HL : Hid (∀ V, Below w.heap.size w V → Calls Tryz.prog 11 #[.agg rc.toArray] V fun e w' => ∃ b : Bool, e = .returned (.bool b) ∧ Below V.heap.size V w') := fun V hV =>
    (large_any p.tx.rq rc V (hr.later hV (Nat.le_refl _)) hg.tx.rq).mono fun e w' ⟨b, he, _, hb⟩ => ⟨b, he, hb⟩
  obtain ⟨x, hx⟩ : ∃ x, decide ((536870911 : Int) < (p.bys.length : Int)) = x := ⟨_, rfl⟩
  clear hs hr hrc hg
  cases x with
  | true =>
    go_enter Tryz.func4, Tryz.ntmps4
    go_upto_region 1 with fail
    rw [← HE.out]
    clear HE
    go_wp2_with fail
    go_ret
    exact ⟨true, rfl, HW.out.1⟩
  | false =>
    go_enter Tryz.func4, Tryz.ntmps4
    go_upto_region 1 with fail
    rw [← HE.out]
    clear HE
    go_wp2_with (refine load_midG (by kernel_rfl) 35 _ rfl w.heap.size 19 rfl rc _ l19 Tryz.underlying35 rfl q11 ?_)
    refine (HL.out _ HW.out.1).mono ?_
    rintro _ w1 ⟨b, rfl, b1⟩
    have H1 : Hid (Below w.heap.size w w1) := HW.out.1.trans (b1.mono HW.out.1.size)
    clear b1
    go_wp2_with fail
    go_ret
    exact ⟨_, rfl, H1.out⟩

def pkI : PkD := { pkZ 1 with cb := 3, ct := 1, ep := 2 }
theorem pkI_chk : chkP pkI true = true := by decide +kernel
theorem pkI_bytes : pkB pkI = [0, 60, 0, 8, 1, 0, 0, 0, 3, 0, 0, 0, 1, 0, 0, 0, 2] := by decide +kernel
theorem rqN_good : rqN.good := by
  unfold rqN Rq.good
  refine ⟨?_, by decide, fun i => i.elim0⟩
  constructor <;> first | decide | (intro x hx; simp at hx) | simp
theorem pkI_good : pkI.good := by
  constructor
  all_goals first | decide | skip
  constructor
  all_goals first | decide | exact rqN_good
end Go.Proofs.YtgeoocchdpehdaaGreatDoor

namespace Go.Proofs.YtgeoocchdpehdaaGreatDoor
open Go.RowKit
set_option maxRecDepth 8000

abbrev iPk : Array Value := #[.int .i8 1, .int .u32 3, .int .u32 1, .int .u32 0, .int .u32 0, .int .i64 0, .int .u32 2, .int .u32 0, .int .u32 0, .int .u32 0, .int .u32 0, .int .u32 0, .bool false, .bool false, .int .u32 0, .int .u32 0, .int .i8 0, .int .u32 0, .int .i64 0, .int .i8 0, .string ⟨#[]⟩, .slice none 0 0, .slice none 0 0, .int .i32 0, .bool false, .bool false, .int .i64 0, .int .i32 0, .slice none 0 0, .slice none 0 0, .slice none 0 0, .int .i64 0]
abbrev iBs : Array Value := #[.int .u8 0, .int .u8 60, .int .u8 0, .int .u8 8, .int .u8 1, .int .u8 0, .int .u8 0, .int .u8 0, .int .u8 3, .int .u8 0, .int .u8 0, .int .u8 0, .int .u8 1, .int .u8 0, .int .u8 0, .int .u8 0, .int .u8 2]
theorem sees_I (w : World) : SeesPk w zTx.toList (.slice none 0 0) pkI := ⟨sees_txN w, sees_nil w, fun x hx => by simp [pkI, pkZ] at hx⟩

theorem hzI : (true = true) ↔ pkI.tx = txN := ⟨fun _ => rfl, fun _ => rfl⟩

theorem row_new (w : World) (Z A : Array Value) (t : TypeId) : Below w.heap.size w ((w.alloc (.cells Z t)).setRow w.heap.size A) ∧ ((w.alloc (.cells Z t)).setRow w.heap.size A).heap[w.heap.size]? = some (.cells A t (0, 0)) := by
  have s1 : (w.alloc (.cells Z t)).heap[w.heap.size]? = some (.cells Z t (0, 0)) := heap_alloc_new _ _
  have ks : Kept (w.alloc (.cells Z t)) ((w.alloc (.cells Z t)).setRow w.heap.size A) (fun k => k = w.heap.size) := ⟨rfl, rfl, rfl, by simp, fun k _ hn => setRow_other _ _ _ _ hn⟩
  exact ⟨(one_alloc w _).trans (ks.below (by simp) (fun k e => by omega)), setRow_heap _ _ _ _ _ _ s1⟩

set_option maxHeartbeats 8000000 in
theorem lives15 (w : World) (hn : Nam w) (hp : PNam w) : Calls Tryz.prog 5 #[] w fun r w' => r = .returned (.bool true) ∧ Below w.heap.size w w' := by
  have s1 : (w.alloc (.cells (zPk 0) 39)).heap[w.heap.size]? = some (.cells (zPk 0) 39 (0, 0)) := heap_alloc_new _ _
  have q32i : (Tryz.prog.info? 39).map (·.size) = some iPk.size := pkSz0
  have u1i : iPk.all (·.oneCell') = true := by simp [Value.oneCell']
  have szi : (zPk 0).size = iPk.size := rfl
  obtain ⟨W1, hW1⟩ : ∃ W1, W1 = (w.alloc (.cells (zPk 0) 39)).setRow w.heap.size iPk := ⟨_, rfl⟩
  have H1 : Hid (Below w.heap.size w W1 ∧ W1.heap[w.heap.size]? = some (.cells iPk 39 (0, 0)) ∧ Nam W1 ∧ PNam W1) := by
    have a := row_new w (zPk 0) iPk 39
    rw [← hW1] at a
    exact ⟨a.1, a.2, hn.below a.1 hn.lt, hp.below a.1 hp.lt⟩
  have HNP : Hid (Nam w ∧ PNam w) := ⟨hn, hp⟩
  have HA : Hid _ := hW1
  clear hW1 hn hp
  go_enter Tryz.func5, Tryz.ntmps5
  go_upto_region 2 with (refine wpList_store_row rfl 39 _ _ rfl w.heap.size iPk rfl rfl 39 _ s1 q32i szi u1i ?_)
  rw [← HA.out]
  clear HA s1 szi
  have hr1 := H1.out.2.1
  go_wp2_with (refine wpList_load_row rfl 39 _ rfl w.heap.size rfl 39 _ (0, 0) _ hr1 Tryz.underlying39 rfl q32i ?_)
  clear hr1
  have HWr : Hid _ := writeP_good pkI zTx.toList (.slice none 0 0) true hzI W1 pkI_good (sees_I W1) H1.out.2.2.1 H1.out.2.2.2 pkI_chk
  refine Calls.mono HWr.out ?_
  rintro _ w2 ⟨v, rfl, ho, b2⟩
  have hv := Sees.own ho
  rw [pkI_bytes] at hv
  obtain ⟨va, vc, rfl⟩ : ∃ va vc, v = .slice va 17 vc := by obtain ⟨va, vc, e, _⟩ := hv; exact ⟨va, vc, e⟩
  have hsz1 := lt_of_block H1.out.2.1
  obtain ⟨W3, hW3⟩ : ∃ W3, W3 = w2.alloc (.cells iBs 5) := ⟨_, rfl⟩
  have H3 : Hid (Below w.heap.size w W3 ∧ W3.heap[w.heap.size]? = some (.cells iPk 39 (0, 0)) ∧ Nam W3 ∧ PNam W3 ∧ Sees W3 (.slice (some ⟨w2.heap.size, 0, none⟩) 17 17) (pkB pkI)) := by
    have hb : Below w.heap.size w w2 := H1.out.1.trans (b2.mono H1.out.1.size)
    have hb3 : Below w.heap.size w W3 := by rw [hW3]; exact hb.alloc hb.size _
    refine ⟨hb3, ?_, HNP.out.1.below hb3 HNP.out.1.lt, HNP.out.2.below hb3 HNP.out.2.lt, ?_⟩
    · rw [hW3]; exact (Below.kept (one_alloc w2 _)).heap ((Below.kept b2).heap H1.out.2.1 (by omega)) (by have := b2.size; omega)
    · rw [hW3, pkI_bytes]; exact sees_new iBs [0, 60, 0, 8, 1, 0, 0, 0, 3, 0, 0, 0, 1, 0, 0, 0, 2] (by decide) rfl
  have HA3 : Hid _ := hW3
  clear hW3 ho b2 hv H1 HWr hsz1
  go_wp2_with fail
  rw [← HA3.out]
  clear HA3
  refine (readP_good pkI true hzI pkI_good (fun x hx => by simp [pkI, pkZ] at hx) pkI_chk _ W3 H3.out.2.2.2.2 H3.out.2.2.1 H3.out.2.2.2.1).mono ?_
  rintro _ w4 ⟨tc, bv, rfl, hpk, b4⟩
  have s4 : (w4.alloc (.cells (zPk 0) 39)).heap[w4.heap.size]? = some (.cells (zPk 0) 39 (0, 0)) := heap_alloc_new _ _
  have q32 := pkSz pkI tc bv hpk.sees.tx.len
  have u1p : (pkL pkI tc bv).toArray.all (·.oneCell') = true := pk_oneS hpk.sees
  have szp : (zPk 0).size = (pkL pkI tc bv).toArray.size := by simp [pkL, hpk.sees.tx.len]
  obtain ⟨W5, hW5⟩ : ∃ W5, W5 = (w4.alloc (.cells (zPk 0) 39)).setRow w4.heap.size (pkL pkI tc bv).toArray := ⟨_, rfl⟩
  have H5 : Hid (Below w.heap.size w W5 ∧ W5.heap[w.heap.size]? = some (.cells iPk 39 (0, 0)) ∧ W5.heap[w4.heap.size]? = some (.cells (pkL pkI tc bv).toArray 39 (0, 0)) ∧ SeesPk W5 tc bv pkI) := by
    have a := row_new w4 (zPk 0) (pkL pkI tc bv).toArray 39
    rw [← hW5] at a
    have hb : Below w.heap.size w w4 := H3.out.1.trans (b4.mono H3.out.1.size)
    have hl := lt_of_block H3.out.2.1
    exact ⟨hb.trans (a.1.mono hb.size), (Below.kept a.1).heap ((Below.kept b4).heap H3.out.2.1 (by omega)) (by have := b4.size; omega), a.2, hpk.sees.below a.1 (Nat.le_refl _)⟩
  have HA5 : Hid _ := hW5
  clear hW5 hpk b4 H3
  go_upto_region 4 with (refine wpList_store_row rfl 39 _ _ rfl w4.heap.size (pkL pkI tc bv).toArray rfl rfl 39 _ s4 q32 szp u1p ?_)
  rw [← HA5.out]
  clear HA5 s4
  have r1 := H5.out.2.1
  have r2 := H5.out.2.2.1
  go_wp2_with (first | (refine load_rowG (by kernel_rfl) 39 _ rfl w.heap.size rfl 39 _ (0, 0) _ r1 Tryz.underlying39 rfl q32i ?_) | (refine load_rowG (by kernel_rfl) 39 _ rfl w4.heap.size rfl 39 _ (0, 0) _ r2 Tryz.underlying39 rfl q32 ?_))
  clear r1 r2
  have HEq : Hid _ := eqPk_same pkI zTx.toList tc (.slice none 0 0) bv W5 (sees_I W5) H5.out.2.2.2
  refine Calls.mono HEq.out ?_
  rintro _ w6 ⟨rfl, b6⟩
  have H6 : Hid (Below w.heap.size w w6) := H5.out.1.trans (b6.mono H5.out.1.size)
  clear b6 H5 HEq
  go_wp2_with fail
  go_ret
  exact ⟨rfl, H6.out⟩
end Go.Proofs.YtgeoocchdpehdaaGreatDoor

namespace Go.Proofs.YtgeoocchdpehdaaGreatDoor
open Go.RowKit
set_option maxRecDepth 8000

theorem cellsEW {w : World} {v : Value} {l : List EnD} (h : SeesR w v 3 (l.map EnD.cells)) : ∃ ao cap, v = .slice ao l.length cap ∧ l.length ≤ cap ∧ Hid (∀ k (hk : k < l.length), ∃ b off, ao = some ⟨b, off, none⟩ ∧ w.cell? ⟨b, off + k * 3, none⟩ = some (.int .i8 l[k].1) ∧ w.cell? ⟨b, off + k * 3 + 1, none⟩ = some (.string l[k].2.1) ∧ w.cell? ⟨b, off + k * 3 + 2, none⟩ = some (.string l[k].2.2)) := by
  obtain ⟨ao, cap, h1, h2, _, _, h3⟩ := h
  rw [List.length_map] at h1 h2
  refine ⟨ao, cap, h1, h2, fun k hk => ?_⟩
  rcases h3 with h3 | ⟨b, off, e, h3⟩
  · have : l.length = 0 := by simpa using congrArg List.length h3
    omega
  · have h := h3 k (by rw [List.length_map]; exact hk)
    refine ⟨b, off, e, ?_, ?_, ?_⟩
    · exact (h 0 (by omega)).trans (by simp [EnD.cells])
    · exact (h 1 (by omega)).trans (by simp [EnD.cells])
    · exact (h 2 (by omega)).trans (by simp [EnD.cells])

theorem cellsIW {w : World} {v : Value} {l : List IdD} (h : SeesR w v 2 (l.map IdD.cells)) : ∃ ao cap, v = .slice ao l.length cap ∧ l.length ≤ cap ∧ Hid (∀ k (hk : k < l.length), ∃ b off, ao = some ⟨b, off, none⟩ ∧ w.cell? ⟨b, off + k * 2, none⟩ = some (.string l[k].1) ∧ w.cell? ⟨b, off + k * 2 + 1, none⟩ = some (.string l[k].2)) := by
  obtain ⟨ao, cap, h1, h2, _, _, h3⟩ := h
  rw [List.length_map] at h1 h2
  refine ⟨ao, cap, h1, h2, fun k hk => ?_⟩
  rcases h3 with h3 | ⟨b, off, e, h3⟩
  · have : l.length = 0 := by simpa using congrArg List.length h3
    omega
  · have h := h3 k (by rw [List.length_map]; exact hk)
    refine ⟨b, off, e, ?_, ?_⟩
    · exact (h 0 (by omega)).trans (by simp [IdD.cells])
    · exact (h 1 (by omega)).trans (by simp [IdD.cells])
end Go.Proofs.YtgeoocchdpehdaaGreatDoor

namespace Go.Proofs.YtgeoocchdpehdaaGreatDoor
open Go.RowKit
set_option maxRecDepth 8000

def lt4 (k : Int) : ByteArray :=
  if k = 1 then ⟨#[112, 100, 97, 102, 115, 119]⟩ else if k = 2 ∨ k = 5 then ⟨#[112, 118, 115, 119]⟩ else if k = 3 then ⟨#[112, 100, 118, 115, 119]⟩ else if k = 4 then ⟨#[112, 97, 118, 115, 119]⟩
  else if k = 6 then ⟨#[115, 119, 111]⟩ else if k = 7 then ⟨#[116]⟩ else if k = 8 then ⟨#[115]⟩ else if k = 9 ∨ k = 10 ∨ k = 11 ∨ k = 12 then ⟨#[112, 115, 119]⟩ else ⟨#[]⟩

theorem letters_any (k : Int) (w : World) : Calls Tryz.prog 102 #[.int .i8 k] w fun r w' => r = .returned (.string (lt4 k)) ∧ w' = w := by
  go_enter Tryz.func102, Tryz.ntmps102
  go_wp2
  all_goals (go_ret; refine ⟨?_, rfl⟩; unfold lt4; simp at *; simp [*])

def hasB (s : ByteArray) (c : Int) : Bool := s.data.toList.any (fun b => decide ((b.toNat : Int) = c))

theorem hasB_true {s : ByteArray} {c : Int} {i : Nat} (h : i < s.size) (e : ((s[i]).toNat : Int) = c) : hasB s c = true := by
  unfold hasB
  rw [List.any_eq_true]
  refine ⟨s[i], ?_, by simpa using e⟩
  show s.data[i] ∈ s.data.toList
  simp
theorem hasB_false {s : ByteArray} {c : Int} (h : ∀ i (hi : i < s.size), ((s[i]).toNat : Int) ≠ c) : hasB s c = false := by
  unfold hasB
  rw [List.any_eq_false]
  intro b hb
  obtain ⟨i, hi, rfl⟩ := List.getElem_of_mem hb
  have : ((s.data[i]).toNat : Int) ≠ c := h i (by simpa using hi)
  simpa using this

set_option maxHeartbeats 1000000 in
theorem has_any (s : ByteArray) (c : Int) (w : World) (hs : s.size ≤ 1000) : Calls Tryz.prog 103 #[.string s, .int .u8 c] w fun r w' => r = .returned (.bool (hasB s c)) ∧ w' = w := by
  go_enter Tryz.func103, Tryz.ntmps103
  go_wp2
  go_loop [5] (fun i => ∃ k : Nat, k ≤ s.size ∧ i = .int .i64 k ∧ Hid (∀ j (hj : j < s.size), j < k → ((s[j]).toNat : Int) ≠ c)) (fun i => s.size - (intOf i).toNat)
  case atStart => exact ⟨0, Nat.zero_le _, rfl, fun j _ h => by omega⟩
  case round =>
    obtain ⟨k, hk, rfl, HN⟩ := hrel
    by_cases hlt : k < s.size
    · by_cases he : ((s[k]).toNat : Int) = c
      · have HT : Hid (hasB s c = true) := hasB_true hlt he
        have he' : (((s[k]).toNat : Int) == c) = true := by simpa using he
        go_wp2
        all_goals (go_ret; exact ⟨by rw [HT.out]; rfl, rfl⟩)
      · have HN2 : Hid (∀ j (hj : j < s.size), j < k + 1 → ((s[j]).toNat : Int) ≠ c) := fun j hj h => by
          by_cases e : j = k
          · subst e; exact he
          · exact HN.out j hj (by omega)
        have he' : (((s[k]).toNat : Int) == c) = false := by simpa using he
        go_wp2
        go_round
        case rel => exact ⟨k + 1, by omega, by go_num, HN2⟩
        case measure => simp [intOf]; omega
    · have HF : Hid (hasB s c = false) := hasB_false (fun i hi => HN.out i hi (by omega))
      go_wp2
      go_ret
      exact ⟨by rw [HF.out]; rfl, rfl⟩

set_option maxHeartbeats 1000000 in
theorem refIds_any (v : Value) (l : List IdD) (w : World) (h : SeesR w v 2 (l.map IdD.cells)) (hl : l.length ≤ 140737488355328) (hg : ∀ x ∈ l, x.scheme.size ≤ 140737488355328 ∧ x.name.size ≤ 140737488355328) :
    Calls Tryz.prog 105 #[v] w fun r w' => r = .returned (.bool (whoOk l)) ∧ w' = w := by
  obtain ⟨ao, cap, rfl, hlc, HC⟩ := cellsIW h
  have HG : Hid (∀ x ∈ l, x.scheme.size ≤ 140737488355328 ∧ x.name.size ≤ 140737488355328) := hg
  clear h hg
  go_enter Tryz.func105, Tryz.ntmps105
  go_wp2
  go_loop [3] (fun i => ∃ k : Nat, k ≤ l.length ∧ i = .int .i64 k ∧ Hid (∀ x ∈ l.take k, idOk x = true)) (fun i => l.length - (intOf i).toNat)
  case atStart => exact ⟨0, Nat.zero_le _, rfl, fun x hx => by simp at hx⟩
  case round =>
    obtain ⟨k, hk, rfl, HN⟩ := hrel
    by_cases hlt : k < l.length
    · obtain ⟨b, off, rfl, k0, k1⟩ := HC.out k hlt
      obtain ⟨g0, g1⟩ := HG.out l[k] (List.getElem_mem hlt)
      have HM : Hid (l[k] ∈ l ∧ l.take (k + 1) = l.take k ++ [l[k]]) := ⟨List.getElem_mem hlt, List.take_succ_eq_append_getElem hlt⟩
      clear HC HG
      generalize l[k] = x at *
      by_cases ho : idOk x = true
      · have hs : x.scheme.size ≤ 24 ∧ x.name.size ≤ 24 := by unfold idOk at ho; simpa using ho
        obtain ⟨hs0, hs1⟩ := hs
        have HN2 : Hid (∀ y ∈ l.take (k + 1), idOk y = true) := fun y hy => by
          rw [HM.out.2] at hy
          rcases List.mem_append.1 hy with h | h
          · exact HN.out y h
          · obtain rfl : y = x := by simpa using h
            exact ho
        clear HM HN ho
        go_wp2
        go_round
        case rel => exact ⟨k + 1, by omega, by go_num, HN2⟩
        case measure => simp [intOf]; omega
      · have HF : Hid (whoOk l = false) := by
          show _ = _
          unfold whoOk
          rw [Bool.and_eq_false_iff]
          right
          rw [List.all_eq_false]
          exact ⟨x, HM.out.1, ho⟩
        have hs : 24 < x.scheme.size ∨ (x.scheme.size ≤ 24 ∧ 24 < x.name.size) := by unfold idOk at ho; simp at ho; omega
        clear HM HN ho
        rcases hs with hs0 | ⟨hs0, hs1⟩
        · go_wp2
          go_ret
          exact ⟨by rw [HF.out]; rfl, rfl⟩
        · go_wp2
          go_ret
          exact ⟨by rw [HF.out]; rfl, rfl⟩
    · obtain rfl : k = l.length := by omega
      have HT : Hid (whoOk l = decide ((l.length : Int) ≤ 4)) := by
        show _ = _
        unfold whoOk
        have : l.all (fun x => idOk x) = true := by
          rw [List.all_eq_true]
          intro x hx
          exact HN.out x (by rw [List.take_length]; exact hx)
        rw [this, Bool.and_true]
      clear HC HG HN
      go_wp2
      go_ret
      exact ⟨by rw [HT.out]; first | rfl | simp, rfl⟩

set_option maxHeartbeats 1000000 in
theorem refAcl_any (v : Value) (l : List EnD) (w : World) (h : SeesR w v 3 (l.map EnD.cells)) (hl : l.length ≤ 140737488355328) (hg : ∀ x ∈ l, x.id.scheme.size ≤ 140737488355328 ∧ x.id.name.size ≤ 140737488355328) :
    Calls Tryz.prog 104 #[v] w fun r w' => r = .returned (.bool (aclOk l)) ∧ w' = w := by
  obtain ⟨ao, cap, rfl, hlc, HC⟩ := cellsEW h
  have HG : Hid (∀ x ∈ l, x.id.scheme.size ≤ 140737488355328 ∧ x.id.name.size ≤ 140737488355328) := hg
  clear h hg
  go_enter Tryz.func104, Tryz.ntmps104
  go_wp2
  go_loop [3] (fun i => ∃ k : Nat, k ≤ l.length ∧ i = .int .i64 k ∧ Hid (∀ x ∈ l.take k, idOk x.id = true)) (fun i => l.length - (intOf i).toNat)
  case atStart => exact ⟨0, Nat.zero_le _, rfl, fun x hx => by simp at hx⟩
  case round =>
    obtain ⟨k, hk, rfl, HN⟩ := hrel
    by_cases hlt : k < l.length
    · obtain ⟨b, off, rfl, k0, k1, k2⟩ := HC.out k hlt
      obtain ⟨g0, g1⟩ := HG.out l[k] (List.getElem_mem hlt)
      have HM : Hid (l[k] ∈ l ∧ l.take (k + 1) = l.take k ++ [l[k]]) := ⟨List.getElem_mem hlt, List.take_succ_eq_append_getElem hlt⟩
      clear HC HG
      generalize l[k] = x at *
      by_cases ho : idOk x.id = true
      · have hs : x.id.scheme.size ≤ 24 ∧ x.id.name.size ≤ 24 := by unfold idOk at ho; simpa using ho
        obtain ⟨hs0, hs1⟩ := hs
        have HN2 : Hid (∀ y ∈ l.take (k + 1), idOk y.id = true) := fun y hy => by
          rw [HM.out.2] at hy
          rcases List.mem_append.1 hy with h | h
          · exact HN.out y h
          · obtain rfl : y = x := by simpa using h
            exact ho
        clear HM HN ho
        go_wp2
        go_round
        case rel => exact ⟨k + 1, by omega, by go_num, HN2⟩
        case measure => simp [intOf]; omega
      · have HF : Hid (aclOk l = false) := by
          show _ = _
          unfold aclOk
          rw [Bool.and_eq_false_iff]
          right
          rw [List.all_eq_false]
          exact ⟨x, HM.out.1, ho⟩
        have hs : 24 < x.id.scheme.size ∨ (x.id.scheme.size ≤ 24 ∧ 24 < x.id.name.size) := by unfold idOk at ho; simp at ho; omega
        clear HM HN ho
        rcases hs with hs0 | ⟨hs0, hs1⟩
        · go_wp2
          go_ret
          exact ⟨by rw [HF.out]; rfl, rfl⟩
        · go_wp2
          go_ret
          exact ⟨by rw [HF.out]; rfl, rfl⟩
    · obtain rfl : k = l.length := by omega
      have HT : Hid (aclOk l = decide ((l.length : Int) ≤ 4)) := by
        show _ = _
        unfold aclOk
        have : l.all (fun x => idOk x.id) = true := by
          rw [List.all_eq_true]
          intro x hx
          exact HN.out x (by rw [List.take_length]; exact hx)
        rw [this, Bool.and_true]
      clear HC HG HN
      go_wp2
      go_ret
      exact ⟨by rw [HT.out]; first | rfl | simp, rfl⟩
end Go.Proofs.YtgeoocchdpehdaaGreatDoor

namespace Go.Proofs.YtgeoocchdpehdaaGreatDoor
open Go.RowKit
set_option maxRecDepth 8000

theorem lt4_size (k : Int) : (lt4 k).size ≤ 1000 := by
  unfold lt4
  repeat' split
  all_goals decide

def mayB (k : Int) (s : ByteArray) (dl al : Nat) (ver : Int) (eph seq : Bool) (ses tmo : Int) (wl ol : Nat) (qa qw : Bool) : Bool :=
  !(lt4 k).toList.isEmpty && !(!s.toList.isEmpty && !hasB (lt4 k) 112 || decide (64 < s.size)) && !(decide (0 < dl) && !hasB (lt4 k) 100 || decide (96 < dl)) && !(decide (0 < al) && !hasB (lt4 k) 97 || !qa) && !(decide (ver ≠ 0) && !hasB (lt4 k) 118) && !((eph || seq) && !hasB (lt4 k) 102) && !(decide (ses ≠ 0) && !hasB (lt4 k) 115 || decide (ses < 0) || (k == 8) && decide (ses < 1)) && !(hasB (lt4 k) 116 && (decide (tmo < 1) || decide (1000 < tmo)) || !hasB (lt4 k) 116 && decide (tmo ≠ 0)) && !(decide (0 < wl) && !hasB (lt4 k) 119 || !qw) && (if hasB (lt4 k) 111 then decide (1 ≤ ol) && decide (ol ≤ 8) else decide (ol = 0))
end Go.Proofs.YtgeoocchdpehdaaGreatDoor
