/- The walk of DiskGiven: what From, Append and Start are given stays and is not kept. -/
import Derived.Test.YtdhnbgeijfgfaaaGreatDoorQuPJ
import Derived.Test.YtdhnbgeijfgfaaaGreatDoorQvEJ
import Derived.Deep.RegionHeld
namespace Go.Proofs.YtdhnbgeijfgfaaaGreatDoor
open Go.RowKit Go.Shelf
set_option maxRecDepth 8000

abbrev opBox (kind : Int) (name dest : ByteArray) (pv : Value) (nn : Int) (kv : Value) : Obj := .cells #[.int .i64 kind, .string name, .string dest, pv, .int .i64 nn, kv] 41

theorem byd_keep {l : List OpK} (h : byd l = false) : ∀ o ∈ l, o.keep.length < 2147483647 := by
  have e2 := of_decide_eq_false h
  intro o ho
  have := opsSz_mem ho
  unfold opSz at this
  omega

theorem seesQ_of {w : World} {v : Value} {ks : List Int} (h : SeesN w v ks) : SeesQ w v ks := by
  obtain ⟨ao, c, rfl, h1, h2, h3⟩ := h
  refine ⟨ao, c, rfl, h1, h2, h3.imp id ?_⟩
  rintro ⟨b, off, rfl, h4⟩
  refine ⟨b, off, rfl, fun i hi => ?_⟩
  rw [h4 i hi, List.getD_eq_getElem?_getD, List.getElem?_eq_getElem hi]
  rfl
theorem seesN_of {w : World} {v : Value} {ks : List Int} (h : SeesQ w v ks) : SeesN w v ks := by
  obtain ⟨ao, c, rfl, h1, h2, h3⟩ := h
  refine ⟨ao, c, rfl, h1, h2, h3.imp id ?_⟩
  rintro ⟨b, off, rfl, h4⟩
  refine ⟨b, off, rfl, fun i hi => ?_⟩
  rw [h4 i hi, List.getD_eq_getElem?_getD, List.getElem?_eq_getElem hi]
  rfl
theorem wdI_markV (xs : List Int) (j : Nat) (h : xs.length ≤ j) : wdI xs j = -3000000 - j := by unfold wdI; rw [if_neg (by omega)]
theorem WdQ.listV {w : World} {g : Nat} {xs : List Int} (h : WdQ w g xs.length (wdI xs)) : SeesQ w (.slice (some ⟨g, 0, none⟩) xs.length (xs.length + 64)) xs := by
  have := h.sees
  rwa [map_wdI] at this
theorem WdQ.keptV {w w' : World} {g n : Nat} {f : Nat → Int} (h : WdQ w g n f) (hb : w'.heap[g]? = w.heap[g]?) : WdQ w' g n f := ⟨h.row.of_block hb, h.few⟩
theorem OwnsV.same {w w' : World} {B g n c : Nat} {xs : List Int} (h : Owns w B (.slice (some ⟨g, 0, none⟩) n c) xs) (hb : w'.heap[g]? = w.heap[g]?) : Owns w' B (.slice (some ⟨g, 0, none⟩) n c) xs := by
  refine ⟨h.1, ?_⟩
  rcases h.2 with h | ⟨g', cap, cur, e, h1, h2, h3⟩
  · exact .inl h
  · cases e
    exact .inr ⟨_, _, cur, rfl, h1, by rw [hb]; exact h2, h3⟩

/-- The cells of a wide list of files that are turned. -/
def SO (N : Nat) (bk : Nat → Nat) (n i b x : Nat) : Prop := (b = N ∧ x < 3 * i) ∨ ∃ j, j < i ∧ j < n ∧ b = bk j
def SI (N : Nat) (bk : Nat → Nat) (n i k b x : Nat) : Prop := SO N bk n i b x ∨ (b = bk i ∧ x < k)

theorem SI_cell {w : World} {N : Nat} {l : List FlK} {bk : Nat → Nat} {cs : List Value} (h : WdF w N l bk (l.length + 64) cs) {i k : Nat} (hi : i < l.length) : ¬ SI N bk l.length i k N (i * 3 + 1) := by
  rintro ((⟨_, h1⟩ | ⟨j, _, h2, h3⟩) | ⟨h1, _⟩)
  · omega
  · have := h.low j (by omega) h2; omega
  · have := h.low i (by omega) hi; omega
theorem SI_byte {w : World} {N : Nat} {l : List FlK} {bk : Nat → Nat} {cs : List Value} (h : WdF w N l bk (l.length + 64) cs) {i k : Nat} (hi : i < l.length) : ¬ SI N bk l.length i k (bk i) k := by
  rintro ((⟨h1, _⟩ | ⟨j, h1, h2, h3⟩) | ⟨_, h1⟩)
  · have := h.low i (by omega) hi; omega
  · have := h.inc j i h1 (by omega) hi; omega
  · omega
theorem SO_low {w : World} {N : Nat} {l : List FlK} {bk : Nat → Nat} {cs : List Value} (h : WdF w N l bk (l.length + 64) cs) {i b x : Nat} (hs : SO N bk l.length i b x) : N ≤ b := by
  rcases hs with ⟨h1, _⟩ | ⟨j, _, h2, h3⟩
  · omega
  · have := h.low j (by omega) h2; omega

set_option maxHeartbeats 8000000 in
theorem given_walk (room : Int) (fvv v : Value) (fl : List FlK) (l : List OpK) (w : World) (hfl : SeesFls w w.heap.size fvv fl) (hfll : fl.length ≤ 140737488355328) (hl : SeesOpsK w w.heap.size v l) (hll : l.length ≤ 140737488355328) (ht : Tab w) (hg0 : 0 < w.heap.size) :
    Calls Tryz.prog 3 #[.int .i64 room, fvv, v] w fun r w' => r = .returned (.bool true) ∧ Below w.heap.size w w' := by
  have HY : Hid _ := beyond_any room hl hll
  obtain ⟨⟨sa, sc, rfl, hsc, hscm, _⟩, _⟩ := id hl
  unfold maxLen at hscm
  have HL : Hid (SeesOpsK w w.heap.size (.slice sa l.length sc) l) := hl
  have HB : Hid (byd l = false → l.length < 2147483647 ∧ ∀ o ∈ l, o.p.length < 2147483647) := byd_false
  have HBK : Hid (byd l = false → ∀ o ∈ l, o.keep.length < 2147483647) := byd_keep
  obtain ⟨⟨ta, tc, rfl, htc, htcm, _⟩, _⟩ := id hfl
  have HFL : Hid (SeesFls w w.heap.size (.slice ta fl.length tc) fl) := hfl
  have HFB : Hid (fbd fl = false → fl.length < 2147483647 ∧ ∀ o ∈ fl, o.p.length < 2147483647) := fbd_false
  have HT : Hid (Tab w ∧ 0 < w.heap.size) := ⟨ht, hg0⟩
  unfold maxLen at htcm
  generalize byd l = bb at *
  clear hl hfl ht hg0
  cases bb
  case true =>
    go_enter Tryz.func3, Tryz.ntmps3
    go_wp2_with fail
    refine Calls.mono HY.out ?_
    rintro e w1 ⟨rfl, hb1⟩
    have H1 : Hid _ := hb1
    clear hb1 HY
    go_wp2_with fail
    go_ret
    exact ⟨rfl, H1.out⟩
  obtain ⟨hl1, hl2⟩ := HB.out rfl
  have HL2 : Hid _ := And.intro hl2 (HBK.out rfl)
  clear HB hl2 HBK
  go_enter Tryz.func3, Tryz.ntmps3
  go_wp2_with fail
  refine Calls.mono HY.out ?_
  rintro e w1 ⟨rfl, hb1⟩
  have HFI : Hid _ := files_any (SeesFls.kept HFL.out (Below.kept hb1) (fun k hk e => by omega)) hfll
  have H1 : Hid _ := hb1
  clear hb1 HY
  generalize fbd fl = fb at *
  go_wp2_with fail
  refine Calls.mono HFI.out ?_
  rintro e w2 ⟨rfl, hb2⟩
  have H2 : Hid (Below w.heap.size w w2) := Below.step H1.out hb2
  clear hb2 H1 HFI
  cases fb
  case true =>
    go_wp2_with fail
    go_ret
    exact ⟨rfl, H2.out⟩
  obtain ⟨hfl1, hfl2⟩ := HFB.out rfl
  have HG : Hid ((∀ o ∈ fl, o.p.length ≤ 70000000000000) ∧ ∀ o ∈ fl, o.name.size ≤ 140737488355328 ∧ -9223372036854775808 ≤ o.dur ∧ o.dur ≤ 9223372036854775807) := ⟨fun o ho => by have := hfl2 o ho; omega, fun o ho => ⟨(HFL.out.2 o ho).nl, (HFL.out.2 o ho).d0, (HFL.out.2 o ho).d1⟩⟩
  clear HFB hfl2
  go_wp2_with fail
  refine (wideFiles_any (.slice ta fl.length tc) fl w.heap.size w2 (SeesFls.kept HFL.out (Below.kept H2.out) (fun k hk e => by omega)) H2.out.size (by omega) HG.out.1 (HT.out.1.below H2.out HT.out.2) (by have := H2.out.size; have := HT.out.2; omega)).mono ?_
  rintro e w3 ⟨rfl, ⟨bk, cs, hwd⟩, hb3⟩
  have H3 : Hid (WdF w3 w2.heap.size fl bk (fl.length + 64) cs ∧ Below w.heap.size w w3 ∧ w.heap.size ≤ w2.heap.size) := ⟨hwd, Below.step H2.out hb3, H2.out.size⟩
  clear hwd hb3 H2
  generalize w2.heap.size = N at *
  have HEQ : Hid (∀ W, Below w3.heap.size w3 W → Calls Tryz.prog 9 #[.slice (some ⟨N, 0, none⟩) fl.length (fl.length + 64), .slice ta fl.length tc] W fun e w' => e = .returned (.bool true) ∧ ∃ q, w' = W.drewN q) := fun W hW =>
    eqFls_any ((H3.out.1.below hW).sees (by omega) HG.out.1 HG.out.2) (SeesFls.kept HFL.out (Below.kept (Below.step H3.out.2.1 hW)) (fun k hk e => by omega)) (wideK_fi fl bk) (by omega)
  have HSP : Hid (∀ W, Below w3.heap.size w3 W → Calls Tryz.prog 10 #[.slice (some ⟨N, 0, none⟩) fl.length (fl.length + 64)] W fun e w' => e = .returned (.bool true) ∧ Below W.heap.size W w') := fun W hW =>
    spareFiles_any (H3.out.1.below hW) (by omega) HG.out.1 (HT.out.1.below (Below.step H3.out.2.1 hW) HT.out.2) (by have := (Below.step H3.out.2.1 hW).size; have := HT.out.2; omega)
  by_cases hq : 0 ≤ room ∧ room ≤ 16777216
  case neg =>
    have HN : Hid _ := from_bad room (.slice (some ⟨N, 0, none⟩) fl.length (fl.length + 64)) w3 hq
    have HN2 : Hid _ := refFrom_bad room (.slice ta fl.length tc) w3 hq
    go_wp2_with fail
    refine Calls.mono HN.out ?_
    rintro e wx ⟨rfl, e9⟩
    rw [e9]
    clear e9
    go_wp2_with fail
    refine Calls.mono HN2.out ?_
    rintro e wx ⟨rfl, e9⟩
    rw [e9]
    clear e9 HN HN2
    go_wp2_with fail
    refine Calls.mono (HEQ.out w3 (Below.refl _ _)) ?_
    rintro e w5 ⟨rfl, q5, hw5⟩
    have H5 : Hid (Below w3.heap.size w3 w5) := by rw [hw5]; exact below_drewN (Below.refl _ _) q5
    clear hw5
    go_wp2_with fail
    refine Calls.mono (HSP.out w5 H5.out) ?_
    rintro e w6 ⟨rfl, hb6⟩
    have H6 : Hid (Below w3.heap.size w3 w6) := Below.step H5.out hb6
    clear hb6 H5
    go_wp2_with fail
    refine Calls.mono (lives_yes w6) ?_
    rintro e w7 ⟨rfl, hb7⟩
    have H7 : Hid (Below w.heap.size w w7) := Below.step H3.out.2.1 (Below.step H6.out hb7)
    clear hb7
    go_wp2_with fail
    go_ret
    exact ⟨rfl, H7.out⟩
  have HN : Hid _ := from_any (w := w3) room (.slice (some ⟨N, 0, none⟩) fl.length (fl.length + 64)) (wideK fl bk) (H3.out.1.sees (by omega) HG.out.1 HG.out.2) hq.1 hq.2
  rw [wideK_fi] at HN
  obtain ⟨r, hr⟩ : ∃ r, r = takeL (newD room) (fl.map FlK.fi) := ⟨_, rfl⟩
  rw [← hr] at HN
  have HRR : Hid _ := hr
  clear hr
  go_wp2_with fail
  refine Calls.mono HN.out ?_
  rintro e w4 (⟨hr0, rfl, fv, ms, hrun⟩ | ⟨hr0, rfl, hb4⟩)
  rotate_left
  · have HR0 : Hid _ := hr0
    have HB4 : Hid (Below w3.heap.size w3 w4) := hb4
    have HN2 : Hid _ := refFrom_any (w := w4) (n := w.heap.size) room (.slice ta fl.length tc) fl (SeesFls.kept HFL.out (Below.kept (Below.step H3.out.2.1 hb4)) (fun k hk e => by omega)) (Below.step H3.out.2.1 hb4).size hq.1 hq.2
    rw [← HRR.out] at HN2
    generalize r.1 = E at *
    clear hb4 hr0 HN
    go_wp2_with fail
    refine Calls.mono HN2.out ?_
    rintro e w5 (⟨h0, _⟩ | ⟨_, rfl, hb5⟩)
    · exact absurd h0 HR0.out
    · have H5 : Hid (Below w3.heap.size w3 w5) := Below.step HB4.out hb5
      clear hb5 HN2
      go_wp2_with fail
      refine Calls.mono (HEQ.out w5 H5.out) ?_
      rintro e w6 ⟨rfl, q6, hw6⟩
      have H6 : Hid (Below w3.heap.size w3 w6) := by rw [hw6]; exact below_drewN H5.out q6
      clear hw6
      go_wp2_with fail
      refine Calls.mono (HSP.out w6 H6.out) ?_
      rintro e w7 ⟨rfl, hb7⟩
      have H7 : Hid (Below w3.heap.size w3 w7) := Below.step H6.out hb7
      clear hb7
      go_wp2_with fail
      refine Calls.mono (lives_yes w7) ?_
      rintro e w8 ⟨rfl, hb8⟩
      have H8 : Hid (Below w.heap.size w w8) := Below.step H3.out.2.1 (Below.step H7.out hb8)
      clear hb8
      go_wp2_with fail
      go_ret
      exact ⟨rfl, H8.out⟩
  · have HRU : Hid _ := hrun
    have HR0 : Hid _ := hr0
    have HN2 : Hid _ := refFrom_any (w := w4) (n := w.heap.size) room (.slice ta fl.length tc) fl (SeesFls.kept HFL.out (Below.kept (Below.step H3.out.2.1 hrun.bel)) (fun k hk e => by omega)) (Below.step H3.out.2.1 hrun.bel).size hq.1 hq.2
    rw [← HRR.out] at HN2
    clear hrun hr0 HN
    go_wp2_with fail
    refine Calls.mono HN2.out ?_
    rintro e w5 (⟨_, rfl, rv, vs, hrn⟩ | ⟨hne, _⟩)
    rotate_left
    · exact absurd HR0.out hne
    · have HBO : Hid (Both w3 w5 w3.heap.size w4.heap.size r.2 (rdOf r.2 room) 0 ∧ Below w3.heap.size w3 w5) := by
        have h7 := HRU.out
        have h8 := hrn
        have h9 := Below.step h7.bel h8.bel
        rw [HRR.out] at h7 h8 ⊢
        exact ⟨both_from (Below.refl _ _) h7 h8, h9⟩
      obtain ⟨p, hp⟩ : ∃ p, p = w3.heap.size := ⟨_, rfl⟩
      obtain ⟨q, hq2⟩ : ∃ q, q = w4.heap.size := ⟨_, rfl⟩
      have HBP : Hid (Both w3 w5 p q r.2 (rdOf r.2 room) 0 ∧ Below w3.heap.size w3 w5) := by rw [hp, hq2]; exact HBO.out
      rw [← hp, ← hq2]
      clear hp hq2 hrn HN2 HRU HBO
      go_wp2_with fail
      refine Calls.mono (HEQ.out w5 HBP.out.2) ?_
      rintro e w6 ⟨rfl, q6, hw6⟩
      have hb6 : Below w5.heap.size w5 w6 := by rw [hw6]; exact below_drewN (Below.refl _ _) q6
      have H6 : Hid (Both w3 w6 p q r.2 (rdOf r.2 room) 0 ∧ Below w3.heap.size w3 w6) := ⟨HBP.out.1.later hb6, Below.step HBP.out.2 hb6⟩
      clear hw6 hb6 HBP
      go_wp2_with fail
      refine Calls.mono (HSP.out w6 H6.out.2) ?_
      rintro e w7 ⟨rfl, hb7⟩
      have H7 : Hid (Both w3 w7 p q r.2 (rdOf r.2 room) 0 ∧ Below w3.heap.size w3 w7 ∧ WdF w7 N fl bk (fl.length + 64) cs) := ⟨H6.out.1.later hb7, Below.step H6.out.2 hb7, H3.out.1.below (Below.step H6.out.2 hb7)⟩
      clear hb7 H6 HEQ HSP
      go_wp2
      go_loopw [12] (fun iv wr => ∃ i : Nat, i ≤ fl.length ∧ iv = .int .i64 i ∧ Hid (Turned w7 wr (SO N bk fl.length i))) (fun iv _ => fl.length - (intOf iv).toNat)
      case atStart => exact ⟨0, Nat.zero_le _, rfl, Turned.refl _ _⟩
      case round =>
        obtain ⟨i, hi, rfl, HI⟩ := hrel
        by_cases hin : i < fl.length
        · obtain ⟨wo, hwo⟩ : ∃ wo, wo = wr := ⟨_, rfl⟩
          subst hwo
          have HC : Hid (w7.cell? ⟨N, i * 3 + 1, none⟩ = some (.slice (some ⟨bk i, 0, none⟩) fl[i].p.length (fl[i].p.length + 64))) := by
            have h1 := (H7.out.2.2.cells i (by omega)).2.1
            rw [cellF_in hin] at h1
            have h2 := H7.out.2.2.own.cellAt (i * 3 + 1) (by omega)
            rw [h1] at h2
            exact h2
          have HBY : Hid (∀ k, k < fl[i].p.length → ∃ x, w7.cell? ⟨bk i, k, none⟩ = some (.int .u8 x)) := fun k hk => ⟨_, owns_cell (H7.out.2.2.bytes i hin (by omega)) k (by rw [wide_len]; omega)⟩
          have HNC : Hid (∀ k, ¬ SI N bk fl.length i k N (i * 3 + 1)) := fun k => SI_cell H7.out.2.2 hin
          have HNB : Hid (∀ k, ¬ SI N bk fl.length i k (bk i) k) := fun k => SI_byte H7.out.2.2 hin
          have HBI : Hid (N < bk i) := H7.out.2.2.low i (by omega) hin
          have hLm : fl[i].p.length ≤ 70000000000000 := HG.out.1 _ (List.getElem_mem hin)
          generalize fl[i].p.length = L at *
          obtain ⟨bi, hbi⟩ : ∃ bi, bi = bk i := ⟨_, rfl⟩
          rw [← hbi] at HC HBY HNB HBI
          have HBB : Hid (bi = bk i) := hbi
          have HRB : Hid (∃ cs4, w7.heap[bi]? = some (.cells cs4 5 (0, 0))) := by
            rw [hbi]
            rcases (H7.out.2.2.bytes i hin (by omega)).2 with ⟨e, _⟩ | ⟨g, c, cur, e, _, hg, _⟩
            · cases e
            · cases e
              exact ⟨cur, hg⟩
          clear hbi
          go_wp2
          go_loopw [13] (fun kv wx => ∃ k : Nat, k ≤ L ∧ kv = .int .i64 k ∧ Hid (Turned w7 wx (SI N bk fl.length i k))) (fun kv _ => L - (intOf kv).toNat)
          case atStart => exact ⟨0, Nat.zero_le _, rfl, HI.out.mono (fun _ _ _ h => .inl h)⟩
          case round =>
            obtain ⟨k, hk, rfl, HK⟩ := hrel
            have g0 : wr.cell? ⟨N, i * 3 + 1, none⟩ = some (.slice (some ⟨bi, 0, none⟩) L (L + 64)) := HK.out.cell HC.out (HNC.out k)
            have i0 : (0 : Int) ≤ (i : Int) := by omega
            have i1 : (i : Int) < (fl.length : Int) := by omega
            by_cases hkl : k < L
            · obtain ⟨x, hx⟩ := HBY.out k hkl
              have hc5 : wr.drew.cell? ⟨bi, k, none⟩ = some (.int .u8 x) := HK.out.cell hx (HNB.out k)
              have g1 : wr.drew.cell? ⟨N, i * 3 + 1, none⟩ = some (.slice (some ⟨bi, 0, none⟩) L (L + 64)) := g0
              have hf5 : wr.drew.frozen? ⟨bi, k, none⟩ = false := by
                obtain ⟨cs4, hcs4⟩ := HRB.out
                obtain ⟨cs5, hcs5, _⟩ := HK.out.row bi _ _ _ hcs4
                exact frozen_of_row wr.drew bi k _ _ hcs5
              have HT5 : Hid (Turned w7 (wr.drew.setCell ⟨bi, k, none⟩ (.int .u8 (bits .xor .u8 x 255))) (SI N bk fl.length i (k + 1))) :=
                Turned.setCell (Turned.mono (S' := SI N bk fl.length i (k + 1)) (HK.out.new ((Kept.refl wr _).drewN 1)) (fun _ _ _ h => h.imp id (fun h => ⟨h.1, by omega⟩))) _ (fun _ => .inr ⟨HBB.out, by omega⟩)
              have g2 : (wr.drew.setCell ⟨bi, k, none⟩ (.int .u8 (bits .xor .u8 x 255))).cell? ⟨N, i * 3 + 1, none⟩ = some (.slice (some ⟨bi, 0, none⟩) L (L + 64)) := HT5.out.cell HC.out (HNC.out (k + 1))
              have k0 : (0 : Int) ≤ (k : Int) := by omega
              have k1 : (k : Int) < (L : Int) := by omega
              clear hx HI
              go_upto_region 16 with fail
              refine wp_region_held_drew (S := fun W => W.cell? ⟨N, i * 3 + 1, none⟩ = some (.slice (some ⟨bi, 0, none⟩) L (L + 64))) (by kernel_rfl) ?_ (fun hHeld => ?_)
              · exact g1
              refine wpAnyH_take (i := 0) (oi := { dst := some 80, op := Op.move (Operand.tmp 7), type := 22, pos := "law.go:211", after := #[], guard := none }) (v := ?_) rfl (by kernel_rfl) (by kernel_rfl) (by kernel_rfl) (fun _ _ _ h => h) (Or.inl ⟨by rfl, ?_⟩) (by assumption) ?_
              rotate_left
              · (intro w hSw; (try dsimp only at hSw); go_simp) <;> with_reducible rfl
              try simp only [Act.put, List.setIfInBounds_toArray, List.set_cons_zero, List.set_cons_succ]
              refine wpAnyH_take (i := 1) (oi := { dst := some 81, op := Op.move (Operand.tmp 12), type := 3, pos := "law.go:211", after := #[], guard := none }) (v := ?_) rfl (by kernel_rfl) (by kernel_rfl) (by kernel_rfl) (fun _ _ _ h => h) (Or.inl ⟨by rfl, ?_⟩) (by assumption) ?_
              rotate_left
              · (intro w hSw; (try dsimp only at hSw); go_simp) <;> with_reducible rfl
              try simp only [Act.put, List.setIfInBounds_toArray, List.set_cons_zero, List.set_cons_succ]
              refine wpAnyH_take (i := 2) (oi := { dst := some 82, op := Op.indexAddr 22 (Operand.tmp 80) (Operand.tmp 81), type := 0, pos := "law.go:211", after := #[{ on := 0, ground := Ground.data }, { on := 1, ground := Ground.data }], guard := none }) (v := ?_) rfl (by kernel_rfl) (by kernel_rfl) (by kernel_rfl) (fun _ _ _ h => h) (Or.inl ⟨by rfl, ?_⟩) (by assumption) ?_
              rotate_left
              · (intro w hSw; (try dsimp only at hSw); go_simp) <;> with_reducible rfl
              try simp only [Act.put, List.setIfInBounds_toArray, List.set_cons_zero, List.set_cons_succ]
              refine wpAnyH_take (i := 3) (oi := { dst := some 83, op := Op.fieldAddr 38 (Operand.tmp 82) 1, type := 0, pos := "law.go:211", after := #[{ on := 2, ground := Ground.data }], guard := none }) (v := ?_) rfl (by kernel_rfl) (by kernel_rfl) (by kernel_rfl) (fun _ _ _ h => h) (Or.inl ⟨by rfl, ?_⟩) (by assumption) ?_
              rotate_left
              · (intro w hSw; (try dsimp only at hSw); go_simp) <;> with_reducible rfl
              try simp only [Act.put, List.setIfInBounds_toArray, List.set_cons_zero, List.set_cons_succ]
              refine wpAnyH_take (i := 4) (oi := { dst := some 84, op := Op.load 36 (Operand.tmp 83), type := 36, pos := "law.go:211", after := #[{ on := 3, ground := Ground.data }], guard := none }) (v := ?_) rfl (by kernel_rfl) (by kernel_rfl) (by kernel_rfl) (fun _ _ _ h => h) (Or.inl ⟨by rfl, ?_⟩) (by assumption) ?_
              rotate_left
              · (intro w hSw; (try dsimp only at hSw); go_simp) <;> with_reducible rfl
              try simp only [Act.put, List.setIfInBounds_toArray, List.set_cons_zero, List.set_cons_succ]
              refine wpAnyH_take (i := 5) (oi := { dst := some 85, op := Op.move (Operand.tmp 13), type := 3, pos := "law.go:211", after := #[], guard := none }) (v := ?_) rfl (by kernel_rfl) (by kernel_rfl) (by kernel_rfl) (fun _ _ _ h => h) (Or.inl ⟨by rfl, ?_⟩) (by assumption) ?_
              rotate_left
              · (intro w hSw; (try dsimp only at hSw); go_simp) <;> with_reducible rfl
              try simp only [Act.put, List.setIfInBounds_toArray, List.set_cons_zero, List.set_cons_succ]
              refine wpAnyH_take (i := 6) (oi := { dst := some 86, op := Op.move (Operand.tmp 7), type := 22, pos := "law.go:211", after := #[], guard := none }) (v := ?_) rfl (by kernel_rfl) (by kernel_rfl) (by kernel_rfl) (fun _ _ _ h => h) (Or.inl ⟨by rfl, ?_⟩) (by assumption) ?_
              rotate_left
              · (intro w hSw; (try dsimp only at hSw); go_simp) <;> with_reducible rfl
              try simp only [Act.put, List.setIfInBounds_toArray, List.set_cons_zero, List.set_cons_succ]
              refine wpAnyH_take (i := 7) (oi := { dst := some 87, op := Op.move (Operand.tmp 12), type := 3, pos := "law.go:211", after := #[], guard := none }) (v := ?_) rfl (by kernel_rfl) (by kernel_rfl) (by kernel_rfl) (fun _ _ _ h => h) (Or.inl ⟨by rfl, ?_⟩) (by assumption) ?_
              rotate_left
              · (intro w hSw; (try dsimp only at hSw); go_simp) <;> with_reducible rfl
              try simp only [Act.put, List.setIfInBounds_toArray, List.set_cons_zero, List.set_cons_succ]
              refine wpAnyH_take (i := 8) (oi := { dst := some 88, op := Op.indexAddr 22 (Operand.tmp 86) (Operand.tmp 87), type := 0, pos := "law.go:211", after := #[{ on := 6, ground := Ground.data }, { on := 7, ground := Ground.data }], guard := none }) (v := ?_) rfl (by kernel_rfl) (by kernel_rfl) (by kernel_rfl) (fun _ _ _ h => h) (Or.inl ⟨by rfl, ?_⟩) (by assumption) ?_
              rotate_left
              · (intro w hSw; (try dsimp only at hSw); go_simp) <;> with_reducible rfl
              try simp only [Act.put, List.setIfInBounds_toArray, List.set_cons_zero, List.set_cons_succ]
              refine wpAnyH_take (i := 9) (oi := { dst := some 89, op := Op.fieldAddr 38 (Operand.tmp 88) 1, type := 0, pos := "law.go:211", after := #[{ on := 8, ground := Ground.data }], guard := none }) (v := ?_) rfl (by kernel_rfl) (by kernel_rfl) (by kernel_rfl) (fun _ _ _ h => h) (Or.inl ⟨by rfl, ?_⟩) (by assumption) ?_
              rotate_left
              · (intro w hSw; (try dsimp only at hSw); go_simp) <;> with_reducible rfl
              try simp only [Act.put, List.setIfInBounds_toArray, List.set_cons_zero, List.set_cons_succ]
              refine wpAnyH_take (i := 10) (oi := { dst := some 90, op := Op.load 36 (Operand.tmp 89), type := 36, pos := "law.go:211", after := #[{ on := 9, ground := Ground.data }], guard := none }) (v := ?_) rfl (by kernel_rfl) (by kernel_rfl) (by kernel_rfl) (fun _ _ _ h => h) (Or.inl ⟨by rfl, ?_⟩) (by assumption) ?_
              rotate_left
              · (intro w hSw; (try dsimp only at hSw); go_simp) <;> with_reducible rfl
              try simp only [Act.put, List.setIfInBounds_toArray, List.set_cons_zero, List.set_cons_succ]
              refine wpAnyH_take (i := 11) (oi := { dst := some 91, op := Op.move (Operand.tmp 13), type := 3, pos := "law.go:211", after := #[], guard := none }) (v := ?_) rfl (by kernel_rfl) (by kernel_rfl) (by kernel_rfl) (fun _ _ _ h => h) (Or.inl ⟨by rfl, ?_⟩) (by assumption) ?_
              rotate_left
              · (intro w hSw; (try dsimp only at hSw); go_simp) <;> with_reducible rfl
              try simp only [Act.put, List.setIfInBounds_toArray, List.set_cons_zero, List.set_cons_succ]
              refine wpAnyH_take (i := 12) (oi := { dst := some 92, op := Op.indexAddr 36 (Operand.tmp 90) (Operand.tmp 91), type := 0, pos := "law.go:211", after := #[{ on := 10, ground := Ground.data }, { on := 11, ground := Ground.data }], guard := none }) (v := ?_) rfl (by kernel_rfl) (by kernel_rfl) (by kernel_rfl) (fun _ _ _ h => h) (Or.inl ⟨by rfl, ?_⟩) (by assumption) ?_
              rotate_left
              · (intro w hSw; (try dsimp only at hSw); go_simp) <;> with_reducible rfl
              try simp only [Act.put, List.setIfInBounds_toArray, List.set_cons_zero, List.set_cons_succ]
              refine wpAnyH_ready (rs := [13]) (by kernel_rfl) (by simp) ?_
              refine AllReadyH.cons (o := { dst := some 93, op := Op.load 5 (Operand.tmp 92), type := 5, pos := "law.go:211", after := #[{ on := 12, ground := Ground.data }], guard := none }) rfl (fun K hK => ?_) AllReadyH.nil
              go_simp
              refine hK.out _ _ g1 (fun hHeld => ?_)
              clear hK K
              refine wpAnyH_take (i := 14) (oi := { dst := some 94, op := Op.binOp BinOp.xor 5 (Operand.tmp 93) (Operand.const (Value.int IntKind.u8 255)) 5, type := 5, pos := "law.go:211", after := #[{ on := 13, ground := Ground.data }], guard := none }) (v := ?_) rfl (by kernel_rfl) (by kernel_rfl) (by kernel_rfl) (fun _ _ _ h => h) (Or.inl ⟨by rfl, ?_⟩) (by assumption) ?_
              rotate_left
              · (intro w hSw; (try dsimp only at hSw); go_simp) <;> with_reducible rfl
              try simp only [Act.put, List.setIfInBounds_toArray, List.set_cons_zero, List.set_cons_succ]
              refine wpAnyH_take (i := 15) (oi := { dst := some 95, op := Op.indexAddr 36 (Operand.tmp 84) (Operand.tmp 85), type := 0, pos := "law.go:211", after := #[{ on := 4, ground := Ground.data }, { on := 5, ground := Ground.data }, { on := 0, ground := Ground.phase }, { on := 1, ground := Ground.phase }, { on := 2, ground := Ground.phase }, { on := 3, ground := Ground.phase }, { on := 4, ground := Ground.phase }, { on := 5, ground := Ground.phase }, { on := 6, ground := Ground.phase }, { on := 7, ground := Ground.phase }, { on := 8, ground := Ground.phase }, { on := 9, ground := Ground.phase }, { on := 10, ground := Ground.phase }, { on := 11, ground := Ground.phase }, { on := 12, ground := Ground.phase }, { on := 13, ground := Ground.phase }, { on := 14, ground := Ground.phase }], guard := none }) (v := ?_) rfl (by kernel_rfl) (by kernel_rfl) (by kernel_rfl) (fun _ _ _ h => h) (Or.inl ⟨by rfl, ?_⟩) (by assumption) ?_
              rotate_left
              · (intro w hSw; (try dsimp only at hSw); go_simp) <;> with_reducible rfl
              try simp only [Act.put, List.setIfInBounds_toArray, List.set_cons_zero, List.set_cons_succ]
              refine wpAnyH_ready (rs := [16]) (by kernel_rfl) (by simp) ?_
              refine AllReadyH.cons (o := { dst := none, op := Op.store 5 (Operand.tmp 95) (Operand.tmp 94), type := 0, pos := "law.go:211", after := #[{ on := 15, ground := Ground.data }, { on := 14, ground := Ground.data }, { on := 0, ground := Ground.phase }, { on := 1, ground := Ground.phase }, { on := 2, ground := Ground.phase }, { on := 3, ground := Ground.phase }, { on := 4, ground := Ground.phase }, { on := 5, ground := Ground.phase }, { on := 6, ground := Ground.phase }, { on := 7, ground := Ground.phase }, { on := 8, ground := Ground.phase }, { on := 9, ground := Ground.phase }, { on := 10, ground := Ground.phase }, { on := 11, ground := Ground.phase }, { on := 12, ground := Ground.phase }, { on := 13, ground := Ground.phase }, { on := 14, ground := Ground.phase }], guard := none }) rfl (fun K hK => ?_) AllReadyH.nil
              go_simp
              refine hK.out _ _ g2 (fun hHeld => ?_)
              clear hK K
              refine wpAnyH_done (by kernel_rfl) ?_ _
              go_wp2
              go_roundw
              case rel => exact ⟨k + 1, by omega, by go_num, HT5⟩
              case measure => simp [intOf]; omega
            · obtain rfl : k = L := by omega
              have HN3 : Hid (∃ cs3, wr.heap[N]? = some (.cells cs3 38 (0, 0)) ∧ fl.length * 3 ≤ cs3.size) := by
                rcases H7.out.2.2.own.2 with ⟨e, _⟩ | ⟨g, c, cur, e, _, hg, hn1, _, hn3, _⟩
                · cases e
                · simp only [Value.slice.injEq, Option.some.injEq, Addr.mk.injEq, and_true, true_and] at e
                  obtain ⟨e1, _⟩ := e
                  rw [← e1] at hg
                  obtain ⟨cs3, h31, h32, _⟩ := HK.out.row N _ _ _ hg
                  exact ⟨cs3, h31, by omega⟩
              obtain ⟨cs3, h31, h32⟩ := HN3.out
              obtain ⟨y0, hy0⟩ : ∃ y, wr.cell? ⟨N, i * 3, none⟩ = some y := ⟨cs3[i * 3]'(by omega), by rw [cell_of_row wr N _ cs3 _ _ h31, Array.getElem?_eq_getElem (by omega)]⟩
              obtain ⟨y2, hy2⟩ : ∃ y, wr.cell? ⟨N, i * 3 + 2, none⟩ = some y := ⟨cs3[i * 3 + 2]'(by omega), by rw [cell_of_row wr N _ cs3 _ _ h31, Array.getElem?_eq_getElem (by omega)]⟩
              have hz0 := frozen_of_row wr N (i * 3) _ _ h31
              have hz1 := frozen_of_row wr N (i * 3 + 1) _ _ h31
              have hz2 := frozen_of_row wr N (i * 3 + 2) _ _ h31
              have HT6 : Hid (Turned w7 (((wr.setCell ⟨N, i * 3, none⟩ (.string ⟨#[33]⟩)).setCell ⟨N, i * 3 + 1, none⟩ (.slice none 0 0)).setCell ⟨N, i * 3 + 2, none⟩ (.int .i64 (-1))) (SO N bk fl.length (i + 1))) :=
                Turned.setCell (Turned.setCell (Turned.setCell (Turned.mono (S' := SO N bk fl.length (i + 1)) HK.out (fun b x _ h => by
                  rcases h with (⟨h1, h2⟩ | ⟨j, h1, h2, h3⟩) | ⟨h1, _⟩
                  · exact .inl ⟨h1, by omega⟩
                  · exact .inr ⟨j, by omega, h2, h3⟩
                  · exact .inr ⟨i, by omega, hin, h1⟩)) _ (fun _ => .inl ⟨rfl, by omega⟩)) _ (fun _ => .inl ⟨rfl, by omega⟩)) _ (fun _ => .inl ⟨rfl, by omega⟩)
              clear h31 h32 HN3 HI
              go_wp2
              go_roundw
              case rel => exact ⟨i + 1, by omega, by go_num, HT6⟩
              case measure => simp [intOf]; omega
        · obtain rfl : i = fl.length := by omega
          have hk7 : Kept w7 wr (fun b => N ≤ b ∧ b < w3.heap.size) := ⟨HI.out.os, HI.out.tape, HI.out.output, HI.out.size, fun j hj hn => HI.out.same j hj (fun x hs => hn ⟨SO_low H7.out.2.2 hs, by
            rcases hs with ⟨h1, _⟩ | ⟨j2, h1, h2, h3⟩
            · have := H3.out.1.lt; omega
            · have := ((H3.out.1.bytes j2 h2 (by omega)).lt (bk j2) rfl).2; omega⟩)⟩
          obtain ⟨wB, hB1, hB2, hB3⟩ := H7.out.1.rebase hk7 (fun j h => h.2)
          have hbw : Below w.heap.size w wr := (Below.step H3.out.2.1 H7.out.2.1).trans (hk7.below (by have := (Below.step H3.out.2.1 H7.out.2.1).size; omega) (fun j h => by have := H3.out.2.2; omega))
          have HWB : Hid (∀ W, Below wB.heap.size wB W → Below w.heap.size w W) := fun W hW => by
            have h1 := hB3 w.heap.size w hbw (by have := H3.out.2.1.size; omega) (by have := H3.out.2.1.size; omega)
            exact h1.trans (hW.mono (by rw [hB1]; exact H3.out.2.1.size))
          have HB0 : Hid (Both wB wr p q r.2 (rdOf r.2 room) 0) := hB2
          clear hk7 hB1 hB2 hB3 hbw HI H7 H3 HG HFL HRR HR0
          go_wp2
          go_loopw [14] (fun vi wr => ∃ k : Nat, k ≤ l.length ∧ vi = .int .i64 k ∧ Hid (∃ D R, Both wB wr p q D R k)) (fun vi _ => l.length - (intOf vi).toNat)
          case atStart => exact ⟨0, Nat.zero_le _, rfl, ⟨_, _, HB0.out⟩⟩
          case round =>
            obtain ⟨k, hk, rfl, HI⟩ := hrel
            obtain ⟨D, R, hB⟩ := HI.out
            have HU : Hid (Both wB wr p q D R k) := hB
            clear hB HI HB0
            by_cases hlt : k < l.length
            · obtain ⟨b, off, rfl, hop⟩ := op_at HL.out rfl k hlt
              have hpl : l[k].p.length < 2147483647 := HL2.out.1 _ (List.getElem_mem hlt)
              have hkl : l[k].keep.length < 2147483647 := HL2.out.2 _ (List.getElem_mem hlt)
              generalize l[k] = o at *
              obtain ⟨kind, name, dest, pa, pc, pp, nn, ka, kc, keep⟩ := o
              simp only at hpl hkl
              have HOP : Hid (∀ wx, Below w.heap.size w wx → wx.cell? ⟨b, off + k * 6, none⟩ = some (.int .i64 kind) ∧ wx.cell? ⟨b, off + k * 6 + 1, none⟩ = some (.string name) ∧ wx.cell? ⟨b, off + k * 6 + 2, none⟩ = some (.string dest) ∧ wx.cell? ⟨b, off + k * 6 + 3, none⟩ = some (.slice pa pp.length pc) ∧ wx.cell? ⟨b, off + k * 6 + 4, none⟩ = some (.int .i64 nn) ∧ wx.cell? ⟨b, off + k * 6 + 5, none⟩ = some (.slice ka keep.length kc) ∧ Sees wx (.slice pa pp.length pc) pp ∧ SeesQ wx (.slice ka keep.length kc) keep ∧ name.size ≤ 140737488355328 ∧ dest.size ≤ 140737488355328 ∧ nn ≤ 9223372036854775807) := fun wx hx => by
                obtain ⟨h1, h2⟩ := hop wx hx
                exact ⟨h1 0 _ rfl, h1 1 _ rfl, h1 2 _ rfl, h1 3 _ rfl, h1 4 _ rfl, h1 5 _ rfl, h2.see, seesQ_of h2.keep, h2.nl, h2.dl, h2.n1⟩
              clear hop
              have hbw := HWB.out _ HU.out.bel
              obtain ⟨c0, c1, c2, c3, c4, c5, _⟩ := HOP.out wr hbw
              have hbB : Below wr.heap.size wr (wr.alloc (opBox kind name dest (.slice pa pp.length pc) nn (.slice ka keep.length kc))) := (Below.refl _ _).alloc (Nat.le_refl _) _
              have HV : Hid (Below wr.heap.size wr (wr.alloc (opBox kind name dest (.slice pa pp.length pc) nn (.slice ka keep.length kc))) ∧ (wr.alloc (opBox kind name dest (.slice pa pp.length pc) nn (.slice ka keep.length kc))).heap[wr.heap.size]? = some (.cells #[.int .i64 kind, .string name, .string dest, .slice pa pp.length pc, .int .i64 nn, .slice ka keep.length kc] 41 (0, 0)) ∧ Below w.heap.size w (wr.alloc (opBox kind name dest (.slice pa pp.length pc) nn (.slice ka keep.length kc)))) := ⟨hbB, heap_alloc_new _ _, Below.step hbw hbB⟩
              clear hbB hbw
              go_upto_region 22 with fail
              generalize wr.alloc (.cells #[.int .i64 kind, .string name, .string dest, .slice pa pp.length pc, .int .i64 nn, .slice ka keep.length kc] 41) = V at *
              generalize hBn : wr.heap.size = B at *
              clear c0 c1 c2 c3 c4 c5
              obtain ⟨_, _, _, c3, _, _, hsP, _⟩ := HOP.out V HV.out.2.2
              have HBn : Hid (wr.heap.size = B) := hBn
              clear hBn
              go_wp2_with fail
              refine (wideBytes_any _ pp V hsP (by omega)).mono ?_
              rintro e w2 ⟨rfl, hoP, hb2⟩
              have r2 := (Below.kept hb2).heap HV.out.2.1 (fun e => by have e' : V.heap.size ≤ B := e; have := lt_of_block HV.out.2.1; omega)
              have x3 := cell_of_row w2 B 3 _ _ _ r2
              have f3 := frozen_of_row w2 B 3 _ _ r2
              simp only [List.getElem?_toArray, List.getElem?_cons_zero, List.getElem?_cons_succ] at x3
              have hlB := lt_of_block HV.out.2.1
              have HW2 : Hid (Owns (w2.setCell ⟨B, 3, none⟩ (.slice (some ⟨V.heap.size, 0, none⟩) pp.length (pp.length + 64))) V.heap.size (.slice (some ⟨V.heap.size, 0, none⟩) (wide pp).length (pp.length + 64)) (wide pp) ∧ Below B wr (w2.setCell ⟨B, 3, none⟩ (.slice (some ⟨V.heap.size, 0, none⟩) pp.length (pp.length + 64))) ∧ (w2.setCell ⟨B, 3, none⟩ (.slice (some ⟨V.heap.size, 0, none⟩) pp.length (pp.length + 64))).heap[B]? = some (.cells #[.int .i64 kind, .string name, .string dest, .slice (some ⟨V.heap.size, 0, none⟩) pp.length (pp.length + 64), .int .i64 nn, .slice ka keep.length kc] 41 (0, 0)) ∧ B < V.heap.size ∧ V.heap.size < (w2.setCell ⟨B, 3, none⟩ (.slice (some ⟨V.heap.size, 0, none⟩) pp.length (pp.length + 64))).heap.size) := by
                have hks : Kept w2 (w2.setCell ⟨B, 3, none⟩ (.slice (some ⟨V.heap.size, 0, none⟩) pp.length (pp.length + 64))) (fun j => j = B) := (Kept.refl w2 (fun j => j = B)).setCell ⟨B, 3, none⟩ _ (fun _ => rfl)
                have ho2 : Owns (w2.setCell ⟨B, 3, none⟩ (.slice (some ⟨V.heap.size, 0, none⟩) pp.length (pp.length + 64))) V.heap.size (.slice (some ⟨V.heap.size, 0, none⟩) (wide pp).length (pp.length + 64)) (wide pp) := Owns.kept hoP hks (fun j e e' => by simp [Value.ownBlock] at e; omega)
                refine ⟨ho2, ?_, ?_, hlB, (ho2.lt _ rfl).2⟩
                · have h1 : Below B wr w2 := HV.out.1.trans (hb2.mono (by omega))
                  exact h1.trans (hks.below (by have := h1.size; have := HBn.out; omega) (fun j e => by omega))
                · have := heap_setF (i := 3) (.slice (some ⟨V.heap.size, 0, none⟩) pp.length (pp.length + 64)) r2
                  simpa using this
              clear hoP hb2 r2 hlB hsP c3 HV
              go_upto_region 23 with fail
              generalize w2.setCell ⟨B, 3, none⟩ (.slice (some ⟨V.heap.size, 0, none⟩) pp.length (pp.length + 64)) = W3 at *
              generalize V.heap.size = PB at *
              clear x3 f3
              have hbw3 : Below w.heap.size w W3 := HWB.out _ (HU.out.bel.trans (HW2.out.2.1.mono (by have := HU.out.bel.size; have := HBn.out; omega)))
              obtain ⟨_, _, _, _, _, c5, _, hsK, _⟩ := HOP.out W3 hbw3
              go_wp2_with fail
              refine (wideInts_any _ keep W3 hsK (by omega)).mono ?_
              rintro e w4 ⟨rfl, hwq, hb4⟩
              have hlB := lt_of_block HW2.out.2.2.1
              have r4 := (Below.kept hb4).heap HW2.out.2.2.1 (fun e => by have e' : W3.heap.size ≤ B := e; omega)
              have x5 := cell_of_row w4 B 5 _ _ _ r4
              have f5 := frozen_of_row w4 B 5 _ _ r4
              simp only [List.getElem?_toArray, List.getElem?_cons_zero, List.getElem?_cons_succ] at x5
              have HW4 : Hid (Owns (w4.setCell ⟨B, 5, none⟩ (.slice (some ⟨W3.heap.size, 0, none⟩) keep.length (keep.length + 64))) PB (.slice (some ⟨PB, 0, none⟩) (wide pp).length (pp.length + 64)) (wide pp) ∧ WdQ (w4.setCell ⟨B, 5, none⟩ (.slice (some ⟨W3.heap.size, 0, none⟩) keep.length (keep.length + 64))) W3.heap.size keep.length (wdI keep) ∧ Below B wr (w4.setCell ⟨B, 5, none⟩ (.slice (some ⟨W3.heap.size, 0, none⟩) keep.length (keep.length + 64))) ∧ (w4.setCell ⟨B, 5, none⟩ (.slice (some ⟨W3.heap.size, 0, none⟩) keep.length (keep.length + 64))).heap[B]? = some (.cells #[.int .i64 kind, .string name, .string dest, .slice (some ⟨PB, 0, none⟩) pp.length (pp.length + 64), .int .i64 nn, .slice (some ⟨W3.heap.size, 0, none⟩) keep.length (keep.length + 64)] 41 (0, 0)) ∧ B < PB ∧ PB < W3.heap.size ∧ W3.heap.size < (w4.setCell ⟨B, 5, none⟩ (.slice (some ⟨W3.heap.size, 0, none⟩) keep.length (keep.length + 64))).heap.size) := by
                have hks : Kept w4 (w4.setCell ⟨B, 5, none⟩ (.slice (some ⟨W3.heap.size, 0, none⟩) keep.length (keep.length + 64))) (fun j => j = B) := (Kept.refl w4 (fun j => j = B)).setCell ⟨B, 5, none⟩ _ (fun _ => rfl)
                have hpb := HW2.out.2.2.2
                have ho2 := Owns.kept (Owns.kept HW2.out.1 (Below.kept hb4) (fun j e e' => by have e2 : W3.heap.size ≤ j := e'; simp [Value.ownBlock] at e; omega)) hks (fun j e e' => by simp [Value.ownBlock] at e; omega)
                have hq2 : WdQ (w4.setCell ⟨B, 5, none⟩ (.slice (some ⟨W3.heap.size, 0, none⟩) keep.length (keep.length + 64))) W3.heap.size keep.length (wdI keep) := hwq.keptV (hks.block _ hwq.row.lt (by omega))
                refine ⟨ho2, hq2, ?_, ?_, hpb.1, hpb.2, hq2.row.lt⟩
                · have h1 : Below B wr w4 := HW2.out.2.1.trans (hb4.mono (by omega))
                  exact h1.trans (hks.below (by have := h1.size; have := HBn.out; omega) (fun j e => by omega))
                · have := heap_setF (i := 5) (.slice (some ⟨W3.heap.size, 0, none⟩) keep.length (keep.length + 64)) r4
                  simpa using this
              clear hwq hb4 r4 hlB hsK c5 HW2 hbw3
              go_upto_region 24 with fail
              generalize w4.setCell ⟨B, 5, none⟩ (.slice (some ⟨W3.heap.size, 0, none⟩) keep.length (keep.length + 64)) = W5 at *
              generalize W3.heap.size = KB at *
              clear x5 f5
              have y0 := cell_of_row W5 B 0 _ _ _ HW4.out.2.2.2.1
              have y1 := cell_of_row W5 B 1 _ _ _ HW4.out.2.2.2.1
              have y2 := cell_of_row W5 B 2 _ _ _ HW4.out.2.2.2.1
              have y3 := cell_of_row W5 B 3 _ _ _ HW4.out.2.2.2.1
              have y4 := cell_of_row W5 B 4 _ _ _ HW4.out.2.2.2.1
              have y5 := cell_of_row W5 B 5 _ _ _ HW4.out.2.2.2.1
              simp only [List.getElem?_toArray, List.getElem?_cons_zero, List.getElem?_cons_succ] at y0 y1 y2 y3 y4 y5
              have hlst := HOP.out W5 (HWB.out _ (HU.out.bel.trans (HW4.out.2.2.1.mono (by have := HU.out.bel.size; have := HBn.out; omega))))
              have HST : Hid _ := step_anyN (w := W5) HU.out (by rw [HBn.out]; exact HW4.out.2.2.1) (by omega) ⟨kind, name, dest, some ⟨PB, 0, none⟩, pp.length + 64, pp, nn, some ⟨KB, 0, none⟩, keep.length + 64, keep⟩ ⟨by
                have h := sees_prefix (n := pp.length) HW4.out.1 (by rw [wide_len]; omega)
                rw [wide_take] at h
                exact h, seesN_of HW4.out.2.1.listV, by show pp.length ≤ _; omega, by show keep.length ≤ _; omega, hlst.2.2.2.2.2.2.2.2.1, hlst.2.2.2.2.2.2.2.2.2.1, fun _ j e => by simp [OpK.pv, Value.ownBlock] at e; subst e; have := HW4.out.2.2.2.2; exact ⟨by rw [HBn.out]; omega, by omega⟩, fun _ j e => by simp [OpK.kv, Value.ownBlock] at e; subst e; have := HW4.out.2.2.2.2; exact ⟨by rw [HBn.out]; omega, by omega⟩, hlst.2.2.2.2.2.2.2.2.2.2⟩ (by show pp.length ≤ _; omega)
              rw [HBn.out] at HST
              clear hlst
              go_wp2_with fail
              refine Calls.mono HST.out ?_
              rintro e w6 ⟨rfl, hsame, D5, R5, hN⟩
              have hB6 : Below w.heap.size w w6 := HWB.out _ (hN w6 (Kept.refl _ _)).bel
              have hpk := HW4.out.2.2.2.2
              have HW6 : Hid (Owns w6 PB (.slice (some ⟨PB, 0, none⟩) (wide pp).length (pp.length + 64)) (wide pp) ∧ WdQ w6 KB keep.length (wdI keep) ∧ w6.heap[B]? = some (.cells #[.int .i64 kind, .string name, .string dest, .slice (some ⟨PB, 0, none⟩) pp.length (pp.length + 64), .int .i64 nn, .slice (some ⟨KB, 0, none⟩) keep.length (keep.length + 64)] 41 (0, 0)) ∧ B < PB ∧ PB < KB ∧ KB < W5.heap.size ∧ Below w.heap.size w w6 ∧ ∀ w9, Kept w6 w9 (Btw B W5.heap.size) → Both wB w9 p q D5 R5 (k + 1)) :=
                ⟨OwnsV.same HW4.out.1 (hsame PB ⟨by omega, by omega⟩), HW4.out.2.1.keptV (hsame KB ⟨by omega, by omega⟩), by rw [hsame B ⟨by omega, by omega⟩]; exact HW4.out.2.2.2.1, hpk.1, hpk.2.1, hpk.2.2, hB6, hN⟩
              clear hsame hN hB6 hpk HST HW4 y0 y1 y2 y3 y4 y5
              have HSX : Hid (∀ V', Below w6.heap.size w6 V' → V'.cell? ⟨B, 3, none⟩ = some (.slice (some ⟨PB, 0, none⟩) pp.length (pp.length + 64)) ∧ V'.cell? ⟨B, 5, none⟩ = some (.slice (some ⟨KB, 0, none⟩) keep.length (keep.length + 64)) ∧ V'.cell? ⟨b, off + k * 6 + 3, none⟩ = some (.slice pa pp.length pc) ∧ V'.cell? ⟨b, off + k * 6 + 5, none⟩ = some (.slice ka keep.length kc)) := fun V' hV => by
                have hr := (Below.kept hV).heap HW6.out.2.2.1 (fun e => by have e' : w6.heap.size ≤ B := e; have := lt_of_block HW6.out.2.2.1; omega)
                have h3 := cell_of_row V' B 3 _ _ _ hr
                have h5 := cell_of_row V' B 5 _ _ _ hr
                simp only [List.getElem?_toArray, List.getElem?_cons_zero, List.getElem?_cons_succ] at h3 h5
                have hh := HOP.out V' (Below.step HW6.out.2.2.2.2.2.2.1 hV)
                exact ⟨h3, h5, hh.2.2.2.1, hh.2.2.2.2.2.1⟩
              have hOw : ∀ V', Below w6.heap.size w6 V' → Owns V' PB (.slice (some ⟨PB, 0, none⟩) (wide pp).length (pp.length + 64)) (wide pp) := fun V' hV => OwnsV.same HW6.out.1 (hV.block PB (by have := (HW6.out.1.lt PB rfl).2; omega))
              have hWq : ∀ V', Below w6.heap.size w6 V' → WdQ V' KB keep.length (wdI keep) := fun V' hV => HW6.out.2.1.below hV
              have HQ1 : Hid (∀ V', Below w6.heap.size w6 V' → Calls Tryz.prog 15 #[.slice (some ⟨PB, 0, none⟩) pp.length (pp.length + 64), .slice pa pp.length pc] V' fun e w' => e = .returned (.bool true) ∧ Below V'.heap.size V' w') := fun V' hV => by
                have h := sees_prefix (n := pp.length) (hOw V' hV) (by rw [wide_len]; omega)
                rw [wide_take] at h
                refine (eqBytes_any _ _ pp pp V' h (HOP.out V' (Below.step HW6.out.2.2.2.2.2.2.1 hV)).2.2.2.2.2.2.1).mono ?_
                rintro e vx ⟨rfl, n, hn⟩
                exact ⟨by rw [decide_eq_true rfl], by rw [hn]; exact below_drewN (Below.refl _ _) n⟩
              have HQ2 : Hid (∀ V', Below w6.heap.size w6 V' → Calls Tryz.prog 16 #[.slice (some ⟨PB, 0, none⟩) pp.length (pp.length + 64)] V' fun e w' => e = .returned (.bool true) ∧ w' = V') := fun V' hV =>
                spareBytes_any PB pp (wide pp) V' (hOw V' hV) (wide_len pp) (fun j h1 h2 => by rw [wide_nth pp j h2, if_neg (by omega)]) (by omega)
              have HQ3 : Hid (∀ V', Below w6.heap.size w6 V' → Calls Tryz.prog 17 #[.slice (some ⟨KB, 0, none⟩) keep.length (keep.length + 64), .slice ka keep.length kc] V' fun e w' => e = .returned (.bool true) ∧ Below V'.heap.size V' w') := fun V' hV =>
                eqIntsQ _ _ keep V' (hWq V' hV).listV (HOP.out V' (Below.step HW6.out.2.2.2.2.2.2.1 hV)).2.2.2.2.2.2.2.1
              have HQ4 : Hid (∀ V', Below w6.heap.size w6 V' → Calls Tryz.prog 18 #[.slice (some ⟨KB, 0, none⟩) keep.length (keep.length + 64)] V' fun e w' => e = .returned (.bool true) ∧ w' = V') := fun V' hV =>
                spareInts_any (hWq V' hV) (wdI_markV keep)
              have HOW : Hid (∀ V', Below w6.heap.size w6 V' → Owns V' PB (.slice (some ⟨PB, 0, none⟩) (wide pp).length (pp.length + 64)) (wide pp) ∧ WdQ V' KB keep.length (wdI keep)) := fun V' hV => ⟨hOw V' hV, hWq V' hV⟩
              clear hOw hWq
              have i0 : (0 : Int) ≤ (k : Int) := by omega
              have i1 : (k : Int) < (l.length : Int) := by omega
              go_upto_region 25 with fail
              refine wp_region_held_drew (S := fun W => W.cell? ⟨B, 3, none⟩ = some (.slice (some ⟨PB, 0, none⟩) pp.length (pp.length + 64)) ∧ W.cell? ⟨B, 5, none⟩ = some (.slice (some ⟨KB, 0, none⟩) keep.length (keep.length + 64)) ∧ W.cell? ⟨b, off + k * 6 + 3, none⟩ = some (.slice pa pp.length pc) ∧ W.cell? ⟨b, off + k * 6 + 5, none⟩ = some (.slice ka keep.length kc)) (by kernel_rfl) ?_ (fun hHeld => ?_)
              · exact HSX.out w6.drew (below_drewN (Below.refl _ w6) 1)
              refine wpAnyH_take (i := 0) (oi := { dst := some 128, op := Op.move (Operand.tmp 16), type := 4, pos := "law.go:220", after := #[], guard := none }) (v := ?_) rfl (by kernel_rfl) (by kernel_rfl) (by kernel_rfl) (fun _ _ _ h => h) (Or.inl ⟨by rfl, ?_⟩) (by assumption) ?_
              rotate_left
              · (intro w hSw; (try dsimp only at hSw); go_simp) <;> with_reducible rfl
              try simp only [Act.put, List.setIfInBounds_toArray, List.set_cons_zero, List.set_cons_succ]
              refine wpAnyH_take (i := 1) (oi := { dst := some 129, op := Op.unOp UnOp.not 4 (Operand.tmp 128), type := 4, pos := "law.go:220", after := #[{ on := 0, ground := Ground.data }], guard := none }) (v := ?_) rfl (by kernel_rfl) (by kernel_rfl) (by kernel_rfl) (fun _ _ _ h => h) (Or.inl ⟨by rfl, ?_⟩) (by assumption) ?_
              rotate_left
              · (intro w hSw; (try dsimp only at hSw); go_simp) <;> with_reducible rfl
              try simp only [Act.put, List.setIfInBounds_toArray, List.set_cons_zero, List.set_cons_succ]
              refine wpAnyH_take (i := 2) (oi := { dst := some 130, op := Op.move (Operand.tmp 129), type := 4, pos := "law.go:220", after := #[{ on := 1, ground := Ground.data }], guard := none }) (v := ?_) rfl (by kernel_rfl) (by kernel_rfl) (by kernel_rfl) (fun _ _ _ h => h) (Or.inl ⟨by rfl, ?_⟩) (by assumption) ?_
              rotate_left
              · (intro w hSw; (try dsimp only at hSw); go_simp) <;> with_reducible rfl
              try simp only [Act.put, List.setIfInBounds_toArray, List.set_cons_zero, List.set_cons_succ]
              refine wpAnyH_take (i := 3) (oi := { dst := some 131, op := Op.fieldAddr 41 (Operand.tmp 15) 3, type := 0, pos := "law.go:220", after := #[{ on := 2, ground := Ground.guard }], guard := some (2, false) }) (v := ?_) rfl (by kernel_rfl) (by kernel_rfl) (by kernel_rfl) (fun _ _ _ h => h) (Or.inl ⟨by rfl, ?_⟩) (by assumption) ?_
              rotate_left
              · (intro w hSw; (try dsimp only at hSw); go_simp) <;> with_reducible rfl
              try simp only [Act.put, List.setIfInBounds_toArray, List.set_cons_zero, List.set_cons_succ]
              refine wpAnyH_take (i := 4) (oi := { dst := some 132, op := Op.load 36 (Operand.tmp 131), type := 36, pos := "law.go:220", after := #[{ on := 3, ground := Ground.data }, { on := 2, ground := Ground.guard }], guard := some (2, false) }) (v := ?_) rfl (by kernel_rfl) (by kernel_rfl) (by kernel_rfl) (fun _ _ _ h => h) (Or.inl ⟨by rfl, ?_⟩) (by assumption) ?_
              rotate_left
              · (intro w hSw; (try dsimp only at hSw); go_simp) <;> with_reducible rfl
              try simp only [Act.put, List.setIfInBounds_toArray, List.set_cons_zero, List.set_cons_succ]
              refine wpAnyH_take (i := 5) (oi := { dst := some 133, op := Op.move (Operand.tmp 2), type := 23, pos := "law.go:220", after := #[{ on := 2, ground := Ground.guard }], guard := some (2, false) }) (v := ?_) rfl (by kernel_rfl) (by kernel_rfl) (by kernel_rfl) (fun _ _ _ h => h) (Or.inl ⟨by rfl, ?_⟩) (by assumption) ?_
              rotate_left
              · (intro w hSw; (try dsimp only at hSw); go_simp) <;> with_reducible rfl
              try simp only [Act.put, List.setIfInBounds_toArray, List.set_cons_zero, List.set_cons_succ]
              refine wpAnyH_take (i := 6) (oi := { dst := some 134, op := Op.move (Operand.tmp 14), type := 3, pos := "law.go:220", after := #[{ on := 2, ground := Ground.guard }], guard := some (2, false) }) (v := ?_) rfl (by kernel_rfl) (by kernel_rfl) (by kernel_rfl) (fun _ _ _ h => h) (Or.inl ⟨by rfl, ?_⟩) (by assumption) ?_
              rotate_left
              · (intro w hSw; (try dsimp only at hSw); go_simp) <;> with_reducible rfl
              try simp only [Act.put, List.setIfInBounds_toArray, List.set_cons_zero, List.set_cons_succ]
              refine wpAnyH_take (i := 7) (oi := { dst := some 135, op := Op.indexAddr 23 (Operand.tmp 133) (Operand.tmp 134), type := 0, pos := "law.go:220", after := #[{ on := 5, ground := Ground.data }, { on := 6, ground := Ground.data }, { on := 2, ground := Ground.guard }], guard := some (2, false) }) (v := ?_) rfl (by kernel_rfl) (by kernel_rfl) (by kernel_rfl) (fun _ _ _ h => h) (Or.inl ⟨by rfl, ?_⟩) (by assumption) ?_
              rotate_left
              · (intro w hSw; (try dsimp only at hSw); go_simp) <;> with_reducible rfl
              try simp only [Act.put, List.setIfInBounds_toArray, List.set_cons_zero, List.set_cons_succ]
              refine wpAnyH_take (i := 8) (oi := { dst := some 136, op := Op.fieldAddr 41 (Operand.tmp 135) 3, type := 0, pos := "law.go:220", after := #[{ on := 7, ground := Ground.data }, { on := 2, ground := Ground.guard }], guard := some (2, false) }) (v := ?_) rfl (by kernel_rfl) (by kernel_rfl) (by kernel_rfl) (fun _ _ _ h => h) (Or.inl ⟨by rfl, ?_⟩) (by assumption) ?_
              rotate_left
              · (intro w hSw; (try dsimp only at hSw); go_simp) <;> with_reducible rfl
              try simp only [Act.put, List.setIfInBounds_toArray, List.set_cons_zero, List.set_cons_succ]
              refine wpAnyH_take (i := 9) (oi := { dst := some 137, op := Op.load 36 (Operand.tmp 136), type := 36, pos := "law.go:220", after := #[{ on := 8, ground := Ground.data }, { on := 2, ground := Ground.guard }], guard := some (2, false) }) (v := ?_) rfl (by kernel_rfl) (by kernel_rfl) (by kernel_rfl) (fun _ _ _ h => h) (Or.inl ⟨by rfl, ?_⟩) (by assumption) ?_
              rotate_left
              · (intro w hSw; (try dsimp only at hSw); go_simp) <;> with_reducible rfl
              try simp only [Act.put, List.setIfInBounds_toArray, List.set_cons_zero, List.set_cons_succ]
              refine wpAnyH_ready (rs := [10]) (by kernel_rfl) (by simp) ?_
              refine AllReadyH.cons (o := { dst := some 138, op := Op.call { callee := Callee.value (Operand.func 15), args := #[Operand.tmp 132, Operand.tmp 137], argTypes := #[36, 36] }, type := 4, pos := "law.go:220", after := #[{ on := 4, ground := Ground.data }, { on := 9, ground := Ground.data }, { on := 2, ground := Ground.chain }, { on := 2, ground := Ground.guard }], guard := some (2, false) }) rfl (fun K hK => ?_) AllReadyH.nil
              go_simp
              refine Calls.mono (HQ1.out w6.drew (below_drewN (Below.refl _ _) 1)) ?_
              rintro _ v1 ⟨rfl, hb1⟩
              have HV1 : Hid (Below w6.heap.size w6 v1) := Below.step (below_drewN (Below.refl _ w6) 1) hb1
              clear hb1
              refine hK.out _ _ (HSX.out v1 HV1.out) (fun hHeld => ?_)
              clear hK K
              refine wpAnyH_take (i := 11) (oi := { dst := some 139, op := Op.unOp UnOp.not 4 (Operand.tmp 138), type := 4, pos := "law.go:220", after := #[{ on := 10, ground := Ground.data }, { on := 2, ground := Ground.guard }], guard := some (2, false) }) (v := ?_) rfl (by kernel_rfl) (by kernel_rfl) (by kernel_rfl) (fun _ _ _ h => h) (Or.inl ⟨by rfl, ?_⟩) (by assumption) ?_
              rotate_left
              · (intro w hSw; (try dsimp only at hSw); go_simp) <;> with_reducible rfl
              try simp only [Act.put, List.setIfInBounds_toArray, List.set_cons_zero, List.set_cons_succ]
              refine wpAnyH_take (i := 12) (oi := { dst := some 140, op := Op.pick (Operand.tmp 130) (Operand.const (Value.bool true)) (Operand.tmp 139), type := 4, pos := "law.go:220", after := #[{ on := 2, ground := Ground.data }, { on := 11, ground := Ground.data }], guard := none }) (v := ?_) rfl (by kernel_rfl) (by kernel_rfl) (by kernel_rfl) (fun _ _ _ h => h) (Or.inl ⟨by rfl, ?_⟩) (by assumption) ?_
              rotate_left
              · (intro w hSw; (try dsimp only at hSw); go_simp) <;> with_reducible rfl
              try simp only [Act.put, List.setIfInBounds_toArray, List.set_cons_zero, List.set_cons_succ]
              refine wpAnyH_take (i := 13) (oi := { dst := some 141, op := Op.move (Operand.tmp 140), type := 4, pos := "law.go:220", after := #[{ on := 12, ground := Ground.data }, { on := 10, ground := Ground.chain }], guard := none }) (v := ?_) rfl (by kernel_rfl) (by kernel_rfl) (by kernel_rfl) (fun _ _ _ h => h) (Or.inl ⟨by rfl, ?_⟩) (by assumption) ?_
              rotate_left
              · (intro w hSw; (try dsimp only at hSw); go_simp) <;> with_reducible rfl
              try simp only [Act.put, List.setIfInBounds_toArray, List.set_cons_zero, List.set_cons_succ]
              refine wpAnyH_take (i := 14) (oi := { dst := some 142, op := Op.fieldAddr 41 (Operand.tmp 15) 3, type := 0, pos := "law.go:220", after := #[{ on := 13, ground := Ground.guard }], guard := some (13, false) }) (v := ?_) rfl (by kernel_rfl) (by kernel_rfl) (by kernel_rfl) (fun _ _ _ h => h) (Or.inl ⟨by rfl, ?_⟩) (by assumption) ?_
              rotate_left
              · (intro w hSw; (try dsimp only at hSw); go_simp) <;> with_reducible rfl
              try simp only [Act.put, List.setIfInBounds_toArray, List.set_cons_zero, List.set_cons_succ]
              refine wpAnyH_take (i := 15) (oi := { dst := some 143, op := Op.load 36 (Operand.tmp 142), type := 36, pos := "law.go:220", after := #[{ on := 14, ground := Ground.data }, { on := 13, ground := Ground.guard }], guard := some (13, false) }) (v := ?_) rfl (by kernel_rfl) (by kernel_rfl) (by kernel_rfl) (fun _ _ _ h => h) (Or.inl ⟨by rfl, ?_⟩) (by assumption) ?_
              rotate_left
              · (intro w hSw; (try dsimp only at hSw); go_simp) <;> with_reducible rfl
              try simp only [Act.put, List.setIfInBounds_toArray, List.set_cons_zero, List.set_cons_succ]
              refine wpAnyH_ready (rs := [16]) (by kernel_rfl) (by simp) ?_
              refine AllReadyH.cons (o := { dst := some 144, op := Op.call { callee := Callee.value (Operand.func 16), args := #[Operand.tmp 143], argTypes := #[36] }, type := 4, pos := "law.go:220", after := #[{ on := 15, ground := Ground.data }, { on := 13, ground := Ground.chain }, { on := 13, ground := Ground.guard }], guard := some (13, false) }) rfl (fun K hK => ?_) AllReadyH.nil
              go_simp
              refine Calls.mono (HQ2.out v1 HV1.out) ?_
              rintro _ vx ⟨rfl, e9⟩
              rw [e9]
              clear e9
              refine hK.out _ _ (HSX.out v1 HV1.out) (fun hHeld => ?_)
              clear hK K
              refine wpAnyH_take (i := 17) (oi := { dst := some 145, op := Op.unOp UnOp.not 4 (Operand.tmp 144), type := 4, pos := "law.go:220", after := #[{ on := 16, ground := Ground.data }, { on := 13, ground := Ground.guard }], guard := some (13, false) }) (v := ?_) rfl (by kernel_rfl) (by kernel_rfl) (by kernel_rfl) (fun _ _ _ h => h) (Or.inl ⟨by rfl, ?_⟩) (by assumption) ?_
              rotate_left
              · (intro w hSw; (try dsimp only at hSw); go_simp) <;> with_reducible rfl
              try simp only [Act.put, List.setIfInBounds_toArray, List.set_cons_zero, List.set_cons_succ]
              refine wpAnyH_take (i := 18) (oi := { dst := some 146, op := Op.pick (Operand.tmp 141) (Operand.const (Value.bool true)) (Operand.tmp 145), type := 4, pos := "law.go:220", after := #[{ on := 13, ground := Ground.data }, { on := 17, ground := Ground.data }], guard := none }) (v := ?_) rfl (by kernel_rfl) (by kernel_rfl) (by kernel_rfl) (fun _ _ _ h => h) (Or.inl ⟨by rfl, ?_⟩) (by assumption) ?_
              rotate_left
              · (intro w hSw; (try dsimp only at hSw); go_simp) <;> with_reducible rfl
              try simp only [Act.put, List.setIfInBounds_toArray, List.set_cons_zero, List.set_cons_succ]
              refine wpAnyH_take (i := 19) (oi := { dst := some 147, op := Op.move (Operand.tmp 146), type := 4, pos := "law.go:220", after := #[{ on := 18, ground := Ground.data }, { on := 16, ground := Ground.chain }], guard := none }) (v := ?_) rfl (by kernel_rfl) (by kernel_rfl) (by kernel_rfl) (fun _ _ _ h => h) (Or.inl ⟨by rfl, ?_⟩) (by assumption) ?_
              rotate_left
              · (intro w hSw; (try dsimp only at hSw); go_simp) <;> with_reducible rfl
              try simp only [Act.put, List.setIfInBounds_toArray, List.set_cons_zero, List.set_cons_succ]
              refine wpAnyH_take (i := 20) (oi := { dst := some 148, op := Op.fieldAddr 41 (Operand.tmp 15) 5, type := 0, pos := "law.go:220", after := #[{ on := 19, ground := Ground.guard }], guard := some (19, false) }) (v := ?_) rfl (by kernel_rfl) (by kernel_rfl) (by kernel_rfl) (fun _ _ _ h => h) (Or.inl ⟨by rfl, ?_⟩) (by assumption) ?_
              rotate_left
              · (intro w hSw; (try dsimp only at hSw); go_simp) <;> with_reducible rfl
              try simp only [Act.put, List.setIfInBounds_toArray, List.set_cons_zero, List.set_cons_succ]
              refine wpAnyH_take (i := 21) (oi := { dst := some 149, op := Op.load 39 (Operand.tmp 148), type := 39, pos := "law.go:220", after := #[{ on := 20, ground := Ground.data }, { on := 19, ground := Ground.guard }], guard := some (19, false) }) (v := ?_) rfl (by kernel_rfl) (by kernel_rfl) (by kernel_rfl) (fun _ _ _ h => h) (Or.inl ⟨by rfl, ?_⟩) (by assumption) ?_
              rotate_left
              · (intro w hSw; (try dsimp only at hSw); go_simp) <;> with_reducible rfl
              try simp only [Act.put, List.setIfInBounds_toArray, List.set_cons_zero, List.set_cons_succ]
              refine wpAnyH_take (i := 22) (oi := { dst := some 150, op := Op.move (Operand.tmp 2), type := 23, pos := "law.go:220", after := #[{ on := 19, ground := Ground.guard }], guard := some (19, false) }) (v := ?_) rfl (by kernel_rfl) (by kernel_rfl) (by kernel_rfl) (fun _ _ _ h => h) (Or.inl ⟨by rfl, ?_⟩) (by assumption) ?_
              rotate_left
              · (intro w hSw; (try dsimp only at hSw); go_simp) <;> with_reducible rfl
              try simp only [Act.put, List.setIfInBounds_toArray, List.set_cons_zero, List.set_cons_succ]
              refine wpAnyH_take (i := 23) (oi := { dst := some 151, op := Op.move (Operand.tmp 14), type := 3, pos := "law.go:220", after := #[{ on := 19, ground := Ground.guard }], guard := some (19, false) }) (v := ?_) rfl (by kernel_rfl) (by kernel_rfl) (by kernel_rfl) (fun _ _ _ h => h) (Or.inl ⟨by rfl, ?_⟩) (by assumption) ?_
              rotate_left
              · (intro w hSw; (try dsimp only at hSw); go_simp) <;> with_reducible rfl
              try simp only [Act.put, List.setIfInBounds_toArray, List.set_cons_zero, List.set_cons_succ]
              refine wpAnyH_take (i := 24) (oi := { dst := some 152, op := Op.indexAddr 23 (Operand.tmp 150) (Operand.tmp 151), type := 0, pos := "law.go:220", after := #[{ on := 22, ground := Ground.data }, { on := 23, ground := Ground.data }, { on := 19, ground := Ground.guard }], guard := some (19, false) }) (v := ?_) rfl (by kernel_rfl) (by kernel_rfl) (by kernel_rfl) (fun _ _ _ h => h) (Or.inl ⟨by rfl, ?_⟩) (by assumption) ?_
              rotate_left
              · (intro w hSw; (try dsimp only at hSw); go_simp) <;> with_reducible rfl
              try simp only [Act.put, List.setIfInBounds_toArray, List.set_cons_zero, List.set_cons_succ]
              refine wpAnyH_take (i := 25) (oi := { dst := some 153, op := Op.fieldAddr 41 (Operand.tmp 152) 5, type := 0, pos := "law.go:220", after := #[{ on := 24, ground := Ground.data }, { on := 19, ground := Ground.guard }], guard := some (19, false) }) (v := ?_) rfl (by kernel_rfl) (by kernel_rfl) (by kernel_rfl) (fun _ _ _ h => h) (Or.inl ⟨by rfl, ?_⟩) (by assumption) ?_
              rotate_left
              · (intro w hSw; (try dsimp only at hSw); go_simp) <;> with_reducible rfl
              try simp only [Act.put, List.setIfInBounds_toArray, List.set_cons_zero, List.set_cons_succ]
              refine wpAnyH_take (i := 26) (oi := { dst := some 154, op := Op.load 39 (Operand.tmp 153), type := 39, pos := "law.go:220", after := #[{ on := 25, ground := Ground.data }, { on := 19, ground := Ground.guard }], guard := some (19, false) }) (v := ?_) rfl (by kernel_rfl) (by kernel_rfl) (by kernel_rfl) (fun _ _ _ h => h) (Or.inl ⟨by rfl, ?_⟩) (by assumption) ?_
              rotate_left
              · (intro w hSw; (try dsimp only at hSw); go_simp) <;> with_reducible rfl
              try simp only [Act.put, List.setIfInBounds_toArray, List.set_cons_zero, List.set_cons_succ]
              refine wpAnyH_ready (rs := [27]) (by kernel_rfl) (by simp) ?_
              refine AllReadyH.cons (o := { dst := some 155, op := Op.call { callee := Callee.value (Operand.func 17), args := #[Operand.tmp 149, Operand.tmp 154], argTypes := #[39, 39] }, type := 4, pos := "law.go:220", after := #[{ on := 21, ground := Ground.data }, { on := 26, ground := Ground.data }, { on := 19, ground := Ground.chain }, { on := 19, ground := Ground.guard }], guard := some (19, false) }) rfl (fun K hK => ?_) AllReadyH.nil
              go_simp
              refine Calls.mono (HQ3.out v1 HV1.out) ?_
              rintro _ v2 ⟨rfl, hb2⟩
              have HV2 : Hid (Below w6.heap.size w6 v2) := Below.step HV1.out hb2
              clear hb2
              refine hK.out _ _ (HSX.out v2 HV2.out) (fun hHeld => ?_)
              clear hK K
              refine wpAnyH_take (i := 28) (oi := { dst := some 156, op := Op.unOp UnOp.not 4 (Operand.tmp 155), type := 4, pos := "law.go:220", after := #[{ on := 27, ground := Ground.data }, { on := 19, ground := Ground.guard }], guard := some (19, false) }) (v := ?_) rfl (by kernel_rfl) (by kernel_rfl) (by kernel_rfl) (fun _ _ _ h => h) (Or.inl ⟨by rfl, ?_⟩) (by assumption) ?_
              rotate_left
              · (intro w hSw; (try dsimp only at hSw); go_simp) <;> with_reducible rfl
              try simp only [Act.put, List.setIfInBounds_toArray, List.set_cons_zero, List.set_cons_succ]
              refine wpAnyH_take (i := 29) (oi := { dst := some 157, op := Op.pick (Operand.tmp 147) (Operand.const (Value.bool true)) (Operand.tmp 156), type := 4, pos := "law.go:220", after := #[{ on := 19, ground := Ground.data }, { on := 28, ground := Ground.data }], guard := none }) (v := ?_) rfl (by kernel_rfl) (by kernel_rfl) (by kernel_rfl) (fun _ _ _ h => h) (Or.inl ⟨by rfl, ?_⟩) (by assumption) ?_
              rotate_left
              · (intro w hSw; (try dsimp only at hSw); go_simp) <;> with_reducible rfl
              try simp only [Act.put, List.setIfInBounds_toArray, List.set_cons_zero, List.set_cons_succ]
              refine wpAnyH_take (i := 30) (oi := { dst := some 158, op := Op.move (Operand.tmp 157), type := 4, pos := "law.go:220", after := #[{ on := 29, ground := Ground.data }, { on := 27, ground := Ground.chain }], guard := none }) (v := ?_) rfl (by kernel_rfl) (by kernel_rfl) (by kernel_rfl) (fun _ _ _ h => h) (Or.inl ⟨by rfl, ?_⟩) (by assumption) ?_
              rotate_left
              · (intro w hSw; (try dsimp only at hSw); go_simp) <;> with_reducible rfl
              try simp only [Act.put, List.setIfInBounds_toArray, List.set_cons_zero, List.set_cons_succ]
              refine wpAnyH_take (i := 31) (oi := { dst := some 159, op := Op.fieldAddr 41 (Operand.tmp 15) 5, type := 0, pos := "law.go:220", after := #[{ on := 30, ground := Ground.guard }], guard := some (30, false) }) (v := ?_) rfl (by kernel_rfl) (by kernel_rfl) (by kernel_rfl) (fun _ _ _ h => h) (Or.inl ⟨by rfl, ?_⟩) (by assumption) ?_
              rotate_left
              · (intro w hSw; (try dsimp only at hSw); go_simp) <;> with_reducible rfl
              try simp only [Act.put, List.setIfInBounds_toArray, List.set_cons_zero, List.set_cons_succ]
              refine wpAnyH_take (i := 32) (oi := { dst := some 160, op := Op.load 39 (Operand.tmp 159), type := 39, pos := "law.go:220", after := #[{ on := 31, ground := Ground.data }, { on := 30, ground := Ground.guard }], guard := some (30, false) }) (v := ?_) rfl (by kernel_rfl) (by kernel_rfl) (by kernel_rfl) (fun _ _ _ h => h) (Or.inl ⟨by rfl, ?_⟩) (by assumption) ?_
              rotate_left
              · (intro w hSw; (try dsimp only at hSw); go_simp) <;> with_reducible rfl
              try simp only [Act.put, List.setIfInBounds_toArray, List.set_cons_zero, List.set_cons_succ]
              refine wpAnyH_ready (rs := [33]) (by kernel_rfl) (by simp) ?_
              refine AllReadyH.cons (o := { dst := some 161, op := Op.call { callee := Callee.value (Operand.func 18), args := #[Operand.tmp 160], argTypes := #[39] }, type := 4, pos := "law.go:220", after := #[{ on := 32, ground := Ground.data }, { on := 30, ground := Ground.chain }, { on := 30, ground := Ground.guard }], guard := some (30, false) }) rfl (fun K hK => ?_) AllReadyH.nil
              go_simp
              refine Calls.mono (HQ4.out v2 HV2.out) ?_
              rintro _ vx ⟨rfl, e9⟩
              rw [e9]
              clear e9
              refine hK.out _ _ (HSX.out v2 HV2.out) (fun hHeld => ?_)
              clear hK K
              refine wpAnyH_take (i := 34) (oi := { dst := some 162, op := Op.unOp UnOp.not 4 (Operand.tmp 161), type := 4, pos := "law.go:220", after := #[{ on := 33, ground := Ground.data }, { on := 30, ground := Ground.guard }], guard := some (30, false) }) (v := ?_) rfl (by kernel_rfl) (by kernel_rfl) (by kernel_rfl) (fun _ _ _ h => h) (Or.inl ⟨by rfl, ?_⟩) (by assumption) ?_
              rotate_left
              · (intro w hSw; (try dsimp only at hSw); go_simp) <;> with_reducible rfl
              try simp only [Act.put, List.setIfInBounds_toArray, List.set_cons_zero, List.set_cons_succ]
              refine wpAnyH_take (i := 35) (oi := { dst := some 163, op := Op.pick (Operand.tmp 158) (Operand.const (Value.bool true)) (Operand.tmp 162), type := 4, pos := "law.go:220", after := #[{ on := 30, ground := Ground.data }, { on := 34, ground := Ground.data }], guard := none }) (v := ?_) rfl (by kernel_rfl) (by kernel_rfl) (by kernel_rfl) (fun _ _ _ h => h) (Or.inl ⟨by rfl, ?_⟩) (by assumption) ?_
              rotate_left
              · (intro w hSw; (try dsimp only at hSw); go_simp) <;> with_reducible rfl
              try simp only [Act.put, List.setIfInBounds_toArray, List.set_cons_zero, List.set_cons_succ]
              refine wpAnyH_done (by kernel_rfl) ?_ _
              go_wp2
              have h2 := HOW.out v2 HV2.out
              have HC3 : Hid (v2.cell? ⟨B, 3, none⟩ = some (.slice (some ⟨PB, 0, none⟩) pp.length (pp.length + 64)) ∧ v2.cell? ⟨B, 5, none⟩ = some (.slice (some ⟨KB, 0, none⟩) keep.length (keep.length + 64))) := ⟨(HSX.out v2 HV2.out).1, (HSX.out v2 HV2.out).2.1⟩
              have HPR : Hid ((∃ cs4, v2.heap[PB]? = some (.cells cs4 5 (0, 0))) ∧ (∀ j, j < pp.length → ∃ x, v2.cell? ⟨PB, j, none⟩ = some (.int .u8 x)) ∧ ∃ cs5, v2.heap[KB]? = some (.cells cs5 3 (0, 0)) ∧ keep.length ≤ cs5.size) := by
                refine ⟨?_, fun j hj => ⟨_, owns_cell h2.1 j (by rw [wide_len]; omega)⟩, ?_⟩
                · rcases h2.1.2 with ⟨e, _⟩ | ⟨g, c, cur, e, _, hg, _⟩
                  · cases e
                  · cases e
                    exact ⟨cur, hg⟩
                · obtain ⟨c, hc1, hc2, _⟩ := h2.2.row
                  exact ⟨c, hc1, by omega⟩
              have HKK : Hid (Below w6.heap.size w6 v2) := HV2.out
              clear h2 HQ1 HQ2 HQ3 HQ4 HSX HOW HV1 HV2
              go_loopw [17] (fun jv wx => ∃ j : Nat, j ≤ pp.length ∧ jv = .int .i64 j ∧ Hid (Turned v2 wx (fun c x => c = PB ∧ x < j))) (fun jv _ => pp.length - (intOf jv).toNat)
              case atStart => exact ⟨0, Nat.zero_le _, rfl, Turned.refl _ _⟩
              case round =>
                obtain ⟨j, hj, rfl, HJ⟩ := hrel
                have hpk := HW6.out.2.2.2
                have g0 : wr.cell? ⟨B, 3, none⟩ = some (.slice (some ⟨PB, 0, none⟩) pp.length (pp.length + 64)) := HJ.out.cell HC3.out.1 (fun h => by have := h.1; omega)
                by_cases hjl : j < pp.length
                · obtain ⟨x, hx⟩ := HPR.out.2.1 j hjl
                  have hc5 : wr.drew.cell? ⟨PB, j, none⟩ = some (.int .u8 x) := HJ.out.cell hx (fun h => by have := h.2; omega)
                  have g1 : wr.drew.cell? ⟨B, 3, none⟩ = some (.slice (some ⟨PB, 0, none⟩) pp.length (pp.length + 64)) := g0
                  have hf5 : wr.drew.frozen? ⟨PB, j, none⟩ = false := by
                    obtain ⟨cs4, hcs4⟩ := HPR.out.1
                    obtain ⟨cs5, hcs5, _⟩ := HJ.out.row PB _ _ _ hcs4
                    exact frozen_of_row wr.drew PB j _ _ hcs5
                  have HT5 : Hid (Turned v2 (wr.drew.setCell ⟨PB, j, none⟩ (.int .u8 (bits .xor .u8 x 255))) (fun c x => c = PB ∧ x < j + 1)) :=
                    Turned.setCell (Turned.mono (S' := fun c x => c = PB ∧ x < j + 1) (HJ.out.new ((Kept.refl wr _).drewN 1)) (fun _ _ _ h => ⟨h.1, by have := h.2; omega⟩)) _ (fun _ => ⟨rfl, by omega⟩)
                  have g2 : (wr.drew.setCell ⟨PB, j, none⟩ (.int .u8 (bits .xor .u8 x 255))).cell? ⟨B, 3, none⟩ = some (.slice (some ⟨PB, 0, none⟩) pp.length (pp.length + 64)) := HT5.out.cell HC3.out.1 (fun h => by have := h.1; omega)
                  have k0 : (0 : Int) ≤ (j : Int) := by omega
                  have k1 : (j : Int) < (pp.length : Int) := by omega
                  clear hx hpk
                  go_upto_region 30 with fail
                  refine wp_region_held_drew (S := fun W => W.cell? ⟨B, 3, none⟩ = some (.slice (some ⟨PB, 0, none⟩) pp.length (pp.length + 64))) (by kernel_rfl) ?_ (fun hHeld => ?_)
                  · exact g1
                  refine wpAnyH_take (i := 0) (oi := { dst := some 171, op := Op.fieldAddr 41 (Operand.tmp 15) 3, type := 0, pos := "law.go:224", after := #[], guard := none }) (v := ?_) rfl (by kernel_rfl) (by kernel_rfl) (by kernel_rfl) (fun _ _ _ h => h) (Or.inl ⟨by rfl, ?_⟩) (by assumption) ?_
                  rotate_left
                  · (intro w hSw; (try dsimp only at hSw); go_simp) <;> with_reducible rfl
                  try simp only [Act.put, List.setIfInBounds_toArray, List.set_cons_zero, List.set_cons_succ]
                  refine wpAnyH_take (i := 1) (oi := { dst := some 172, op := Op.load 36 (Operand.tmp 171), type := 36, pos := "law.go:224", after := #[{ on := 0, ground := Ground.data }], guard := none }) (v := ?_) rfl (by kernel_rfl) (by kernel_rfl) (by kernel_rfl) (fun _ _ _ h => h) (Or.inl ⟨by rfl, ?_⟩) (by assumption) ?_
                  rotate_left
                  · (intro w hSw; (try dsimp only at hSw); go_simp) <;> with_reducible rfl
                  try simp only [Act.put, List.setIfInBounds_toArray, List.set_cons_zero, List.set_cons_succ]
                  refine wpAnyH_take (i := 2) (oi := { dst := some 173, op := Op.move (Operand.tmp 17), type := 3, pos := "law.go:224", after := #[], guard := none }) (v := ?_) rfl (by kernel_rfl) (by kernel_rfl) (by kernel_rfl) (fun _ _ _ h => h) (Or.inl ⟨by rfl, ?_⟩) (by assumption) ?_
                  rotate_left
                  · (intro w hSw; (try dsimp only at hSw); go_simp) <;> with_reducible rfl
                  try simp only [Act.put, List.setIfInBounds_toArray, List.set_cons_zero, List.set_cons_succ]
                  refine wpAnyH_take (i := 3) (oi := { dst := some 174, op := Op.fieldAddr 41 (Operand.tmp 15) 3, type := 0, pos := "law.go:224", after := #[], guard := none }) (v := ?_) rfl (by kernel_rfl) (by kernel_rfl) (by kernel_rfl) (fun _ _ _ h => h) (Or.inl ⟨by rfl, ?_⟩) (by assumption) ?_
                  rotate_left
                  · (intro w hSw; (try dsimp only at hSw); go_simp) <;> with_reducible rfl
                  try simp only [Act.put, List.setIfInBounds_toArray, List.set_cons_zero, List.set_cons_succ]
                  refine wpAnyH_take (i := 4) (oi := { dst := some 175, op := Op.load 36 (Operand.tmp 174), type := 36, pos := "law.go:224", after := #[{ on := 3, ground := Ground.data }], guard := none }) (v := ?_) rfl (by kernel_rfl) (by kernel_rfl) (by kernel_rfl) (fun _ _ _ h => h) (Or.inl ⟨by rfl, ?_⟩) (by assumption) ?_
                  rotate_left
                  · (intro w hSw; (try dsimp only at hSw); go_simp) <;> with_reducible rfl
                  try simp only [Act.put, List.setIfInBounds_toArray, List.set_cons_zero, List.set_cons_succ]
                  refine wpAnyH_take (i := 5) (oi := { dst := some 176, op := Op.move (Operand.tmp 17), type := 3, pos := "law.go:224", after := #[], guard := none }) (v := ?_) rfl (by kernel_rfl) (by kernel_rfl) (by kernel_rfl) (fun _ _ _ h => h) (Or.inl ⟨by rfl, ?_⟩) (by assumption) ?_
                  rotate_left
                  · (intro w hSw; (try dsimp only at hSw); go_simp) <;> with_reducible rfl
                  try simp only [Act.put, List.setIfInBounds_toArray, List.set_cons_zero, List.set_cons_succ]
                  refine wpAnyH_take (i := 6) (oi := { dst := some 177, op := Op.indexAddr 36 (Operand.tmp 175) (Operand.tmp 176), type := 0, pos := "law.go:224", after := #[{ on := 4, ground := Ground.data }, { on := 5, ground := Ground.data }], guard := none }) (v := ?_) rfl (by kernel_rfl) (by kernel_rfl) (by kernel_rfl) (fun _ _ _ h => h) (Or.inl ⟨by rfl, ?_⟩) (by assumption) ?_
                  rotate_left
                  · (intro w hSw; (try dsimp only at hSw); go_simp) <;> with_reducible rfl
                  try simp only [Act.put, List.setIfInBounds_toArray, List.set_cons_zero, List.set_cons_succ]
                  refine wpAnyH_ready (rs := [7]) (by kernel_rfl) (by simp) ?_
                  refine AllReadyH.cons (o := { dst := some 178, op := Op.load 5 (Operand.tmp 177), type := 5, pos := "law.go:224", after := #[{ on := 6, ground := Ground.data }], guard := none }) rfl (fun K hK => ?_) AllReadyH.nil
                  go_simp
                  refine hK.out _ _ g1 (fun hHeld => ?_)
                  clear hK K
                  refine wpAnyH_take (i := 8) (oi := { dst := some 179, op := Op.binOp BinOp.xor 5 (Operand.tmp 178) (Operand.const (Value.int IntKind.u8 255)) 5, type := 5, pos := "law.go:224", after := #[{ on := 7, ground := Ground.data }], guard := none }) (v := ?_) rfl (by kernel_rfl) (by kernel_rfl) (by kernel_rfl) (fun _ _ _ h => h) (Or.inl ⟨by rfl, ?_⟩) (by assumption) ?_
                  rotate_left
                  · (intro w hSw; (try dsimp only at hSw); go_simp) <;> with_reducible rfl
                  try simp only [Act.put, List.setIfInBounds_toArray, List.set_cons_zero, List.set_cons_succ]
                  refine wpAnyH_take (i := 9) (oi := { dst := some 180, op := Op.indexAddr 36 (Operand.tmp 172) (Operand.tmp 173), type := 0, pos := "law.go:224", after := #[{ on := 1, ground := Ground.data }, { on := 2, ground := Ground.data }, { on := 0, ground := Ground.phase }, { on := 1, ground := Ground.phase }, { on := 2, ground := Ground.phase }, { on := 3, ground := Ground.phase }, { on := 4, ground := Ground.phase }, { on := 5, ground := Ground.phase }, { on := 6, ground := Ground.phase }, { on := 7, ground := Ground.phase }, { on := 8, ground := Ground.phase }], guard := none }) (v := ?_) rfl (by kernel_rfl) (by kernel_rfl) (by kernel_rfl) (fun _ _ _ h => h) (Or.inl ⟨by rfl, ?_⟩) (by assumption) ?_
                  rotate_left
                  · (intro w hSw; (try dsimp only at hSw); go_simp) <;> with_reducible rfl
                  try simp only [Act.put, List.setIfInBounds_toArray, List.set_cons_zero, List.set_cons_succ]
                  refine wpAnyH_ready (rs := [10]) (by kernel_rfl) (by simp) ?_
                  refine AllReadyH.cons (o := { dst := none, op := Op.store 5 (Operand.tmp 180) (Operand.tmp 179), type := 0, pos := "law.go:224", after := #[{ on := 9, ground := Ground.data }, { on := 8, ground := Ground.data }, { on := 0, ground := Ground.phase }, { on := 1, ground := Ground.phase }, { on := 2, ground := Ground.phase }, { on := 3, ground := Ground.phase }, { on := 4, ground := Ground.phase }, { on := 5, ground := Ground.phase }, { on := 6, ground := Ground.phase }, { on := 7, ground := Ground.phase }, { on := 8, ground := Ground.phase }], guard := none }) rfl (fun K hK => ?_) AllReadyH.nil
                  go_simp
                  refine hK.out _ _ g2 (fun hHeld => ?_)
                  clear hK K
                  refine wpAnyH_done (by kernel_rfl) ?_ _
                  go_wp2
                  go_roundw
                  case rel => exact ⟨j + 1, by omega, by go_num, HT5⟩
                  case measure => simp [intOf]; omega
                · obtain rfl : j = pp.length := by omega
                  obtain ⟨w7b, hw7b⟩ : ∃ w7b, w7b = wr := ⟨_, rfl⟩
                  subst hw7b
                  clear hpk
                  go_wp2
                  go_loopw [18] (fun jv wx => ∃ j : Nat, j ≤ keep.length ∧ jv = .int .i64 j ∧ Hid (Turned v2 wx (fun c x => (c = PB ∧ x < pp.length) ∨ (c = KB ∧ x < j)))) (fun jv _ => keep.length - (intOf jv).toNat)
                  case atStart => exact ⟨0, Nat.zero_le _, rfl, HJ.out.mono (fun _ _ _ h => .inl h)⟩
                  case round =>
                    clear HJ g0
                    obtain ⟨j, hj, rfl, HJ⟩ := hrel
                    have hpk := HW6.out.2.2.2
                    have g0 : wr.cell? ⟨B, 5, none⟩ = some (.slice (some ⟨KB, 0, none⟩) keep.length (keep.length + 64)) := HJ.out.cell HC3.out.2 (fun h => by rcases h with h | h <;> (have := h.1; omega))
                    by_cases hjl : j < keep.length
                    · obtain ⟨cs5, hcs5, hcz⟩ := HPR.out.2.2
                      obtain ⟨cs6, hcs6, hcz6, _⟩ := HJ.out.row KB _ _ _ hcs5
                      obtain ⟨x, hx⟩ : ∃ x, wr.cell? ⟨KB, j, none⟩ = some x := ⟨cs6[j]'(by omega), by rw [cell_of_row wr KB j cs6 _ _ hcs6, Array.getElem?_eq_getElem (by omega)]⟩
                      have hf5 := frozen_of_row wr KB j _ _ hcs6
                      have HT5 : Hid (Turned v2 (wr.setCell ⟨KB, j, none⟩ (.int .i64 (-7))) (fun c x => (c = PB ∧ x < pp.length) ∨ (c = KB ∧ x < j + 1))) :=
                        Turned.setCell (Turned.mono (S' := fun c x => (c = PB ∧ x < pp.length) ∨ (c = KB ∧ x < j + 1)) HJ.out (fun _ _ _ h => h.imp id (fun h => ⟨h.1, by have := h.2; omega⟩))) _ (fun _ => .inr ⟨rfl, by omega⟩)
                      have k0 : (0 : Int) ≤ (j : Int) := by omega
                      have k1 : (j : Int) < (keep.length : Int) := by omega
                      clear hcs5 hcz hcs6 hcz6 hpk
                      go_wp2
                      go_roundw
                      case rel => exact ⟨j + 1, by omega, by go_num, HT5⟩
                      case measure => simp [intOf]; omega
                    · obtain rfl : j = keep.length := by omega
                      have hk9 : Kept w6 wr (Btw B W5.heap.size) := by
                        have h1 : Kept v2 wr (Btw B W5.heap.size) := ⟨HJ.out.os, HJ.out.tape, HJ.out.output, HJ.out.size, fun c hc hn => HJ.out.same c hc (fun x hs => hn (by rcases hs with h | h <;> (have h3 := h.1; subst h3; exact ⟨by omega, by omega⟩)))⟩
                        exact (Kept.mono (S' := Btw B W5.heap.size) (Below.kept HKK.out) (fun c hc h => by have h' : w6.heap.size ≤ c := h; omega)).trans h1 (fun _ _ h => h)
                      have HB9 : Hid (Both wB wr p q D5 R5 (k + 1)) := HW6.out.2.2.2.2.2.2.2 wr hk9
                      have HAL : Hid _ := alike_any HB9.out (by omega)
                      clear hk9 hpk
                      go_wp2_with fail
                      refine Calls.mono HAL.out ?_
                      rintro e w9 ⟨rfl, hb9⟩
                      have H9 : Hid (Both wB w9 p q D5 R5 (k + 1)) := HB9.out.later hb9
                      clear hb9 HAL HB9
                      go_wp2_with fail
                      go_roundw
                      case rel => exact ⟨k + 1, by omega, by go_num, ⟨D5, R5, H9.out⟩⟩
                      case measure => simp [intOf]; omega
            · obtain rfl : k = l.length := by omega
              have HAL : Hid _ := alike_any HU.out (by omega)
              go_wp2_with fail
              refine Calls.mono HAL.out ?_
              rintro e w5 ⟨rfl, hb5⟩
              have H5 : Hid (Below w.heap.size w w5) := HWB.out _ (Below.step HU.out.bel hb5)
              clear hb5 HAL
              go_wp2_with fail
              go_ret
              exact ⟨rfl, H5.out⟩
end Go.Proofs.YtdhnbgeijfgfaaaGreatDoor
