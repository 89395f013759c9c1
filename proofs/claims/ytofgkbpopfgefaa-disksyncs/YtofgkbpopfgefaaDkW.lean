/- DiskSyncs of the statements of layer 2, walked: true for every input. -/
import Derived.Test.YtofgkbpopfgefaaDkV
import Derived.Test.YtofgkbpopfgefaaDkT
namespace Go.Proofs.Ytofgkbpopfgefaa
open Go.RowKit Go.Shelf
set_option maxRecDepth 8000

theorem own_iff (n : ByteArray) : n.toList = [111, 119, 110, 46, 102, 105, 108, 101, 46, 111, 102, 46, 116, 104, 105, 115, 46, 112, 108, 97, 121] ↔ n = ownN := by
  rw [ByteArray.toList_eq]
  constructor
  · intro h
    exact ByteArray.ext (Array.toList_inj.1 h)
  · rintro rfl
    rfl

set_option maxHeartbeats 4000000 in
theorem syncs_walk (room : Int) (pv v kv : Value) (ys : List Int) (l : List OpK) (ks : List Int) (w : World) (hp : Sees w pv ys) (hpb : ys ≠ [] → ∀ j, pv.ownBlock = some j → j < w.heap.size) (hl : SeesOpsK w w.heap.size v l) (hll : l.length ≤ 140737488355328) (hk : SeesN w kv ks) (hkb : ks ≠ [] → ∀ j, kv.ownBlock = some j → j < w.heap.size) :
    Calls Try.prog 4 #[.agg #[.int .i64 room, pv, v, kv]] w fun r w' => r = .returned (.bool true) ∧ Below w.heap.size w w' := by
  obtain ⟨V, eV⟩ : ∃ V, V = w.alloc (.cells #[.int .i64 room, pv, v, kv] 44) := ⟨_, rfl⟩
  have hbV : Below w.heap.size w V := by rw [eV]; exact one_allocK _ _
  have hrow : V.heap[w.heap.size]? = some (.cells #[.int .i64 room, pv, v, kv] 44 (0, 0)) := by rw [eV]; exact heap_alloc_new w _
  have hszV : w.heap.size < V.heap.size := lt_of_block hrow
  have d0 : V.cell? ⟨w.heap.size, 0, none⟩ = some (.int .i64 room) := cell_of_row V _ 0 _ _ _ hrow
  have d1 : V.cell? ⟨w.heap.size, 1, none⟩ = some pv := cell_of_row V _ 1 _ _ _ hrow
  have d2 : V.cell? ⟨w.heap.size, 2, none⟩ = some v := cell_of_row V _ 2 _ _ _ hrow
  have d3 : V.cell? ⟨w.heap.size, 3, none⟩ = some kv := cell_of_row V _ 3 _ _ _ hrow
  have hlV : SeesOpsK V w.heap.size v l := hl.kept (Below.kept hbV) (fun j hj e => by omega)
  have hkV : SeesN V kv ks := hk.kept (Below.kept hbV) (fun hy j e e' => by have := hkb hy j e; omega)
  have hpV : Sees V pv ys := hp.below hbV (Nat.le_refl _)
  have HY : Hid _ := beyond_any room hlV hll
  obtain ⟨⟨sa, sc, rfl, hsc, hscm, _⟩, _⟩ := id hl
  obtain ⟨ka, kc, rfl, hkc, hkm, _⟩ := id hk
  obtain ⟨pa, pc, rfl, hpc, hpm, _⟩ := id hp
  unfold maxLen at hscm hkm hpm
  have HL : Hid (SeesOpsK V w.heap.size (.slice sa l.length sc) l ∧ SeesN V (.slice ka ks.length kc) ks ∧ (ks ≠ [] → ∀ j, (Value.slice ka ks.length kc).ownBlock = some j → j < V.heap.size) ∧ Sees V (.slice pa ys.length pc) ys ∧ (ys ≠ [] → ∀ j, (Value.slice pa ys.length pc).ownBlock = some j → j < V.heap.size)) := ⟨hlV, hkV, fun hy j e => Nat.lt_trans (hkb hy j e) hszV, hpV, fun hy j e => Nat.lt_trans (hpb hy j e) hszV⟩
  have HB : Hid (byd l = false → l.length < 2147483647 ∧ ∀ o ∈ l, o.p.length < 2147483647) := byd_false
  have HBV : Hid _ := hbV
  have HE : Hid _ := eV
  generalize byd l = bb at *
  clear hl hk hkb hp hpb hlV hkV hpV hbV hrow eV
  obtain ⟨N, hN⟩ : ∃ N, N = ys.length := ⟨_, rfl⟩
  have HN : Hid _ := hN
  rw [← hN] at hpc d1
  rw [← hN] at HE HL ⊢
  clear hN
  cases bb
  · obtain ⟨hl1, hl2⟩ := HB.out rfl
    have HL2 : Hid _ := hl2
    clear HB hl2
    by_cases hpl : 2147483647 ≤ N
    · have hdp : decide ((2147483647 : Int) ≤ (N : Int)) = true := decide_eq_true (by omega)
      have hdp2 : decide ((N : Int) ≥ 2147483647) = true := decide_eq_true (by omega)
      go_enter Try.func4, Try.ntmps4
      go_upto_region 1 with fail
      rw [← HE.out]
      go_wp2_with fail
      refine Calls.mono HY.out ?_
      rintro e w1 ⟨rfl, hb1⟩
      have H1 : Hid _ := hb1
      clear hb1 HY
      go_wp2_with fail
      go_ret
      exact ⟨rfl, Below.step HBV.out H1.out⟩
    have hdp : decide ((2147483647 : Int) ≤ (N : Int)) = false := decide_eq_false (by omega)
    have hdp2 : decide ((N : Int) ≥ 2147483647) = false := decide_eq_false (by omega)
    go_enter Try.func4, Try.ntmps4
    go_upto_region 1 with fail
    rw [← HE.out]
    go_wp2_with fail
    refine Calls.mono HY.out ?_
    rintro e w1 ⟨rfl, hb1⟩
    have H1 : Hid _ := hb1
    clear hb1 HY
    go_wp2_with fail
    refine Calls.mono (lives_yes w1) ?_
    rintro e w2 ⟨rfl, hb2⟩
    have H2 : Hid (Below V.heap.size V w2) := Below.step H1.out hb2
    clear hb2 H1
    by_cases hq : 0 ≤ room ∧ room ≤ 16777216
    · have HNW : Hid _ := new_yes room w2 hq
      go_wp2_with fail
      refine Calls.mono HNW.out ?_
      rintro e w3 ⟨rfl, hw3⟩
      have H3 : Hid (Run V w2.heap.size w3 (.slice none 0 0) [] (newD room) 0) := by
        rw [hw3]
        refine ⟨isDk_new w2 room, dkOk_new room hq.1 hq.2, by simp, Below.step H2.out (one_allocK _ _), fun j hj => ?_⟩
        simp [foot, Value.ownBlock] at hj
        rw [hj]
        exact H2.out.size
      have hp3 : w2.heap.size < w3.heap.size := by rw [hw3]; simp
      clear hw3 HNW
      obtain ⟨p, hp⟩ : ∃ p, p = w2.heap.size := ⟨_, rfl⟩
      rw [← hp] at H3 hp3
      rw [← hp]
      clear hp H2
      have hap := append_any H3.out.is H3.out.ok (by simp) ownN (.slice pa N pc) ys (HL.out.2.2.2.1.keptN (Below.kept H3.out.bel) (fun hy j e e' => by have := HL.out.2.2.2.2 hy j e; omega)) (fun hy j e => H3.out.free j (HL.out.2.2.2.2 hy j e)) (by have := HN.out; omega)
      have ok4 : DkOk ((newD room).act ((newD room).errA ownN ys.length) (appF (newD room).files ownN ys)).2 := H3.out.ok.act _ _ (fun e => by obtain ⟨_, a, b, c⟩ := errA_zero e; exact H3.out.ok.fok.app _ _ a b c)
      by_cases hfit : (N : Int) ≤ room
      · have hdf : decide ((N : Int) > room) = false := decide_eq_false (by omega)
        rw [own_one (by rw [← HN.out]; exact hfit)] at hap ok4
        have HA : Hid _ := hap
        have OK4 : Hid _ := ok4
        clear hap ok4
        go_wp2_with fail
        refine Calls.mono HA.out ?_
        rintro e w4 ⟨rfl, fv4, ms4, ht4⟩
        have H4 : Hid (Run V p w4 fv4 ms4 (ownD room ys) 1) := H3.out.to ht4 OK4.out (by simp)
        have hp4 := lt_of_block H4.out.is.row
        have hsy := sync_any H4.out.is H4.out.ok (by simp) ownN
        have ok5 : DkOk ((ownD room ys).act ((ownD room ys).errO ownN) (updF (ownD room ys).files ownN durF)).2 := OK4.out.act _ _ (fun _ => OK4.out.fok.dur _)
        rw [own_two] at hsy ok5
        have HS : Hid _ := hsy
        have OK5 : Hid _ := ok5
        clear hsy ok5 ht4 HA OK4 H3 hp3
        go_wp2_with fail
        refine Calls.mono HS.out ?_
        rintro e w5 ⟨rfl, fv5, ms5, ht5⟩
        have H5 : Hid (Run V p w5 fv5 ms5 (ownS room ys) 2) := H4.out.to ht5 OK5.out (by simp)
        have hp5 := lt_of_block H5.out.is.row
        clear ht5 HS OK5 H4 hp4
        go_wp2_with fail
        go_loopw [11] (fun vi wr => ∃ k : Nat, k ≤ l.length ∧ vi = .int .i64 k ∧ Hid (∃ fv ms D, Run V p wr fv ms D (k + 2) ∧ (⟨ownN, ys, ys.length⟩ : FiD) ∈ D.files)) (fun vi _ => l.length - (intOf vi).toNat)
        case atStart => exact ⟨0, Nat.zero_le _, rfl, ⟨_, _, _, H5.out, List.mem_cons_self ..⟩⟩
        case round =>
          obtain ⟨k, hk, rfl, HI⟩ := hrel
          obtain ⟨fv, ms, D, hrun, hmem⟩ := HI.out
          have HU : Hid _ := hrun
          have HM : Hid _ := hmem
          have hpw := lt_of_block hrun.is.row
          have hxl : w.heap.size < wr.heap.size := Nat.lt_of_lt_of_le hszV hrun.bel.size
          clear hrun hmem HI H5 hp5
          by_cases hlt : k < l.length
          · have hso : SeesOpsK wr w.heap.size (.slice sa l.length sc) l := HL.out.1.kept (Below.kept HU.out.bel) (fun j hj e => by omega)
            obtain ⟨⟨_, _, esl, _, _, h0 | ⟨b, off, e2, hb, hr⟩⟩, hgo⟩ := hso
            · rw [h0] at hlt; simp at hlt
            have e3 : sa = some ⟨b, off, none⟩ := by
              have := (Value.slice.inj esl).1
              rw [this]; exact e2
            subst e3
            have hrk : wr.rangeAt b (off + k * 6) l[k].cells := hr k hlt
            have c1 : wr.cell? ⟨b, off + k * 6 + 1, none⟩ = some (.string l[k].name) := hrk 1 _ rfl
            have c2 : wr.cell? ⟨b, off + k * 6 + 2, none⟩ = some (.string l[k].dest) := hrk 2 _ rfl
            have hg := hgo l[k] (List.getElem_mem hlt)
            have hpl2 : l[k].p.length ≤ 100000000000 := by have := HL2.out l[k] (List.getElem_mem hlt); omega
            have hsz6 : (Try.prog.info? 32).map (·.size) = some l[k].cells.length := Try.opSize
            have hwr : D.writes ≤ 4611686018427387904 := by have := HU.out.writes; omega
            generalize l[k] = o at *
            clear hr hgo esl e2
            by_cases hn1 : o.name = ownN
            · have hx1 := (own_iff _).2 hn1
              clear hrk hg hpl2 hn1
              go_wp2_with fail
              go_roundw
              case rel => exact ⟨k + 1, by omega, by go_num, ⟨_, _, _, ⟨HU.out.is, HU.out.ok, by have := HU.out.writes; omega, HU.out.bel, HU.out.apart⟩, HM.out⟩⟩
              case measure => simp [intOf]; omega
            have hx1 : ¬ o.name.toList = [111, 119, 110, 46, 102, 105, 108, 101, 46, 111, 102, 46, 116, 104, 105, 115, 46, 112, 108, 97, 121] := fun e => hn1 ((own_iff _).1 e)
            have hz1 : (o.name.toList == [111, 119, 110, 46, 102, 105, 108, 101, 46, 111, 102, 46, 116, 104, 105, 115, 46, 112, 108, 97, 121]) = false := by simpa using hx1
            by_cases hn2 : o.dest = ownN
            · have hx2 := (own_iff _).2 hn2
              clear hrk hg hpl2 hn1 hn2
              go_wp2_with fail
              go_roundw
              case rel => exact ⟨k + 1, by omega, by go_num, ⟨_, _, _, ⟨HU.out.is, HU.out.ok, by have := HU.out.writes; omega, HU.out.bel, HU.out.apart⟩, HM.out⟩⟩
              case measure => simp [intOf]; omega
            have hx2 : ¬ o.dest.toList = [111, 119, 110, 46, 102, 105, 108, 101, 46, 111, 102, 46, 116, 104, 105, 115, 46, 112, 108, 97, 121] := fun e => hn2 ((own_iff _).1 e)
            have hz2 : (o.dest.toList == [111, 119, 110, 46, 102, 105, 108, 101, 46, 111, 102, 46, 116, 104, 105, 115, 46, 112, 108, 97, 121]) = false := by simpa using hx2
            have HAC : Hid _ := act_any HU.out.is HU.out.ok hwr o w.heap.size hg hpl2 (fun j hj => HU.out.free j (Nat.lt_trans hj hszV))
            have HNN : Hid (o.name ≠ ownN ∧ o.dest ≠ ownN) := ⟨hn1, hn2⟩
            clear hg hpl2 hn1 hn2
            go_wp2_with (refine wpList_load_mid rfl 32 _ rfl b (off + k * 6) rfl o.cells _ hrk Try.underlying32 rfl hsz6 ?_)
            refine Calls.mono HAC.out ?_
            rintro e w6 ⟨rfl, fv6, ms6, ht6⟩
            have H6 : Hid (Run V p w6 fv6 ms6 (actK D o).2 (k + 1 + 2) ∧ (⟨ownN, ys, ys.length⟩ : FiD) ∈ (actK D o).2.files) := ⟨HU.out.to ht6 (actK_ok HU.out.ok o) (by have := actK_writes D o; have := HU.out.writes; omega), mem_actK HM.out HNN.out.1 HNN.out.2⟩
            clear ht6 HAC c1 c2
            go_wp2_with fail
            go_roundw
            case rel => exact ⟨k + 1, by omega, by go_num, ⟨_, _, _, H6.out⟩⟩
            case measure => simp [intOf]; omega
          · obtain rfl : k = l.length := by omega
            have HOF : Hid _ := off_any HU.out.is
            go_wp2_with fail
            refine Calls.mono HOF.out ?_
            rintro e w6 ⟨rfl, ht6⟩
            have H6 : Hid (Run V p w6 fv ms D.off (l.length + 2) ∧ DkOk D) := ⟨HU.out.to ht6 HU.out.ok.off (by rw [off_writes]; exact HU.out.writes), HU.out.ok⟩
            clear ht6 HOF HU
            have hks6 : SeesN w6 (.slice ka ks.length kc) ks := HL.out.2.1.kept (Below.kept H6.out.1.bel) (fun hy j e e' => by have := HL.out.2.2.1 hy j e; omega)
            have HST : Hid _ := start_any H6.out.1.is H6.out.1.ok _ ks hks6 (fun hy j e => (H6.out.1.free j (HL.out.2.2.1 hy j e)).2)
            have hp6 := lt_of_block H6.out.1.is.row
            have d6 : w6.cell? ⟨w.heap.size, 3, none⟩ = some (.slice ka ks.length kc) := cell_later d3 H6.out.1.bel (Nat.le_refl _)
            have hx6 : w.heap.size < w6.heap.size := Nat.lt_of_lt_of_le hszV H6.out.1.bel.size
            clear hks6
            go_wp2_with fail
            refine Calls.mono HST.out ?_
            rintro e w7 ⟨rfl, ms7, ht7⟩
            have H7 : Hid (Run V p w7 fv ms7 (D.off.start ks) (l.length + 2)) := H6.out.1.to ht7 (H6.out.1.ok.start ks) (by rw [start_writes]; exact H6.out.1.writes)
            have hp7 := lt_of_block H7.out.is.row
            have hrd := read_any H7.out.is H7.out.ok ownN
            obtain ⟨hz, hby⟩ := own_last H6.out.2 HM.out ks
            rw [hz] at hrd
            have HRD : Hid _ := hrd
            have HBY : Hid _ := hby
            clear ht7 HST hrd hby hz H6
            go_wp2_with fail
            refine Calls.mono HRD.out ?_
            rintro e w8 ⟨⟨u, rfl, _, hu⟩, hb8⟩
            obtain ⟨f, hf, ho⟩ := hu (by trivial)
            rw [HBY.out f hf] at ho
            obtain ⟨ua, uc, rfl, huc, hum⟩ := own_shape (owns_mono ho (Nat.zero_le _))
            unfold maxLen at hum
            have hbb : Below V.heap.size V w8 := Below.step H7.out.bel hb8
            have hEQ := eqBytes_any _ _ ys ys w8 (Sees.own ho) (HL.out.2.2.2.1.below hbb (Nat.le_refl _))
            rw [decide_eq_true rfl, ← HN.out] at hEQ
            rw [← HN.out]
            have HEQ : Hid _ := hEQ
            have H8 : Hid _ := hbb
            clear hu hf ho hb8 hbb hEQ HRD HBY
            go_wp2_with fail
            refine Calls.mono HEQ.out ?_
            rintro e w9 ⟨rfl, n9, hw9⟩
            subst w9
            go_wp2_with fail
            go_ret
            exact ⟨rfl, below_drewN (Below.step HBV.out H8.out) _⟩
      · have hdf : decide ((N : Int) > room) = true := decide_eq_true (by omega)
        rw [own_one' (by rw [← HN.out]; exact hfit)] at hap
        have HA : Hid _ := hap
        clear hap ok4
        go_wp2_with fail
        refine Calls.mono HA.out ?_
        rintro e w4 ⟨rfl, fv4, ms4, ht4⟩
        have H4 : Hid (Run V p w4 fv4 ms4 (newD room) 0) := H3.out.to ht4 H3.out.ok (by simp)
        have hp4 := lt_of_block H4.out.is.row
        have hsy := sync_any H4.out.is H4.out.ok (by simp) ownN
        rw [own_two'] at hsy
        have HS : Hid _ := hsy
        clear hsy ht4 HA H3 hp3
        go_wp2_with fail
        refine Calls.mono HS.out ?_
        rintro e w5 ⟨rfl, fv5, ms5, ht5⟩
        have H5 : Hid (Run V p w5 fv5 ms5 (newD room) 0) := H4.out.to ht5 H4.out.ok (by simp)
        clear ht5 HS H4 hp4
        go_wp2_with fail
        go_ret
        exact ⟨rfl, Below.step HBV.out H5.out.bel⟩
    · have HNW : Hid _ := new_no room w2 hq
      have hor : decide (room < 0) = true ∨ (decide (room < 0) = false ∧ decide (room > 16777216) = true) := by
        by_cases h0 : room < 0
        · exact .inl (decide_eq_true h0)
        · exact .inr ⟨decide_eq_false h0, decide_eq_true (by omega)⟩
      clear hq
      go_wp2_with fail
      refine Calls.mono HNW.out ?_
      rintro e w3 ⟨rfl, hw3⟩
      subst w3
      rcases hor with hd | ⟨hd, hd2⟩
      · go_wp2_with fail
        go_ret
        exact ⟨rfl, Below.step HBV.out H2.out⟩
      · go_wp2_with fail
        go_ret
        exact ⟨rfl, Below.step HBV.out H2.out⟩
  · go_enter Try.func4, Try.ntmps4
    go_upto_region 1 with fail
    rw [← HE.out]
    go_wp2_with fail
    refine Calls.mono HY.out ?_
    rintro e w1 ⟨rfl, hb1⟩
    have H1 : Hid _ := hb1
    clear hb1 HY
    go_wp2_with fail
    go_ret
    exact ⟨rfl, Below.step HBV.out H1.out⟩
end Go.Proofs.Ytofgkbpopfgefaa
