/- DiskOwn, walked. -/
import Derived.Test.YtbdokdhconhifaaGreatDoorDoHJ
namespace Go.Proofs.YtbdokdhconhifaaGreatDoor
open Go.RowKit Go.Shelf
set_option maxRecDepth 8000

theorem nm_small {n : ByteArray} (h : isNm n = true) : n.size ≤ 140737488355328 := by
  unfold isNm at h
  simp at h
  omega

set_option maxHeartbeats 8000000 in
theorem own_walk (room : Int) (fvv : Value) (fl : List FlK) (w : World) (hfl : SeesFls w w.heap.size fvv fl) (hfll : fl.length ≤ 140737488355328) (ht : Tab w) (hg0 : 1 < w.heap.size) :
    Calls Tryz.prog 3 #[.int .i64 room, fvv] w fun r w' => r = .returned (.bool true) ∧ Below w.heap.size w w' := by
  obtain ⟨⟨ta, tc, rfl, htc, htcm, _⟩, _⟩ := id hfl
  have HFL : Hid (SeesFls w w.heap.size (.slice ta fl.length tc) fl) := hfl
  have HTB : Hid (Tab w ∧ 1 < w.heap.size) := ⟨ht, hg0⟩
  unfold maxLen at htcm
  have HFI : Hid _ := files_any hfl hfll
  generalize fbd fl = fb at *
  clear hfl ht hg0
  go_enter Tryz.func3, Tryz.ntmps3
  go_wp2_with fail
  refine Calls.mono HFI.out ?_
  rintro e w2 ⟨rfl, hb2⟩
  have H2 : Hid (Below w.heap.size w w2) := hb2
  clear hb2 HFI
  cases fb
  · by_cases hq : 0 ≤ room ∧ room ≤ 16777216
    · have HN : Hid _ := from_any (w := w2) room (.slice ta fl.length tc) fl (SeesFls.mono (SeesFls.kept HFL.out (Below.kept H2.out) (fun k hk e => by omega)) H2.out.size) hq.1 hq.2
      obtain ⟨r, hr⟩ : ∃ r, r = takeL (newD room) (fl.map FlK.fi) := ⟨_, rfl⟩
      rw [← hr] at HN
      have HRR : Hid _ := hr
      clear hr
      go_wp2_with fail
      refine Calls.mono HN.out ?_
      rintro e w3 (⟨hr0, rfl, fv, ms, hrun⟩ | ⟨hr0, rfl, hb3⟩)
      · have HRU : Hid _ := hrun
        have HR0 : Hid _ := hr0
        have HN2 : Hid _ := refFrom_any (w := w3) (n := w.heap.size) room (.slice ta fl.length tc) fl (SeesFls.kept HFL.out (Below.kept (Below.step H2.out hrun.bel)) (fun k hk e => by omega)) (by have := H2.out.size; have := hrun.bel.size; omega) hq.1 hq.2
        rw [← HRR.out] at HN2
        clear hrun hr0 HN
        go_wp2_with fail
        refine Calls.mono HN2.out ?_
        rintro e w4 (⟨_, rfl, rv, vs, hrn⟩ | ⟨hne, _⟩)
        · have HBO : Hid (Both w w4 w2.heap.size w3.heap.size r.2 (rdOf r.2 room) 0 ∧ r.2.on = true) := by
            have h7 := HRU.out
            have h8 := hrn
            rw [HRR.out] at h7 h8 ⊢
            exact ⟨both_from H2.out h7 h8, (takeL_files (newD room) (fl.map FlK.fi)).2.1⟩
          obtain ⟨p, hp⟩ : ∃ p, p = w2.heap.size := ⟨_, rfl⟩
          obtain ⟨q, hq2⟩ : ∃ q, q = w3.heap.size := ⟨_, rfl⟩
          rw [← hp, ← hq2] at HBO
          rw [← hp, ← hq2]
          obtain ⟨D, hD⟩ : ∃ D, D = r.2 := ⟨_, rfl⟩
          rw [← hD] at HBO
          clear hp hq2 hrn HN2 HRU H2 HRR HR0 hD
          have HRF : Hid ((rdOf D room).files = D.files) := rfl
          have HN5 : Hid (∀ V : World, Below w4.heap.size w4 V → Calls Tryz.prog 8 #[.pointer (some ⟨q, 0, none⟩)] V fun e w' => ∃ v', e = .returned v' ∧ w'.ownsRow V.heap.size 9 1 v' D.files.length (nmC D.files) ∧ Below V.heap.size V w') := fun V hV => by
            obtain ⟨fv, ms, rv, vs, h1, h2, h3, h4, h5⟩ := (HBO.out.1.laterO hV).ex
            exact refNames_any h2 HBO.out.1.ok.few
          have HRD : Hid (∀ V : World, Below w4.heap.size w4 V → ∀ (i : Nat) (hi : i < D.files.length), Calls Tryz.prog 9 #[.pointer (some ⟨p, 0, none⟩), .string D.files[i].name] V fun e w' => ∃ a n c, e = .returned (.tuple #[.slice a n c, .int .i64 0]) ∧ Owns w' V.heap.size (.slice a n c) D.files[i].bytes ∧ Below V.heap.size V w') := fun V hV i hi => by
            obtain ⟨fv, ms, rv, vs, h1, h2, h3, h4, h5⟩ := (HBO.out.1.laterO hV).ex
            obtain ⟨e1, e2⟩ := errO_own HBO.out.1.ok HBO.out.2 i hi
            refine (read_any h1 HBO.out.1.ok D.files[i].name).mono ?_
            rintro e w' ⟨⟨v, rfl, _, g2⟩, hb⟩
            obtain ⟨f, g3, g4⟩ := g2 e1
            rw [e2] at g3
            simp at g3
            subst g3
            obtain ⟨a, n, c, rfl⟩ := row_form g4
            rw [e1]
            exact ⟨a, n, c, rfl, g4, hb⟩
          have HLB : Hid (∀ (i : Nat) (hi : i < D.files.length), D.files[i].bytes.length ≤ 70000000000000) := fun i hi => by
            have := len_used (List.getElem_mem hi)
            have := HBO.out.1.ok.fits
            have := HBO.out.1.ok.r1
            omega
          have HDN : Hid (∀ V : World, Below w4.heap.size w4 V → Calls Tryz.prog 12 #[.pointer (some ⟨p, 0, none⟩)] V fun e w' => e = .returned (.slice (some ⟨V.heap.size, 0, none⟩) D.files.length D.files.length) ∧ w'.ownsRow V.heap.size 9 1 (.slice (some ⟨V.heap.size, 0, none⟩) D.files.length D.files.length) D.files.length (nmC D.files) ∧ Below V.heap.size V w') := fun V hV => by
            obtain ⟨fv, ms, rv, vs, h1, h2, h3, h4, h5⟩ := (HBO.out.1.laterO hV).ex
            exact dNames_any h1 HBO.out.1.ok
          have HDI : Hid (∀ V : World, Below w4.heap.size w4 V → Calls Tryz.prog 14 #[.pointer (some ⟨p, 0, none⟩)] V fun e w' => e = .returned (.slice (some ⟨V.heap.size, 0, none⟩) D.files.length D.files.length) ∧ (∃ vs, ImgAt w' V.heap.size (.slice (some ⟨V.heap.size, 0, none⟩) D.files.length D.files.length) D.files vs ∧ ApV vs) ∧ Below V.heap.size V w') := fun V hV => by
            obtain ⟨fv, ms, rv, vs, h1, h2, h3, h4, h5⟩ := (HBO.out.1.laterO hV).ex
            exact dImage_ap h1 HBO.out.1.ok
          have HRI : Hid (∀ V : World, Below w4.heap.size w4 V → Calls Tryz.prog 20 #[.pointer (some ⟨q, 0, none⟩)] V fun e w' => ∃ v' us, e = .returned v' ∧ ImgAt w' V.heap.size v' D.files us ∧ Below V.heap.size V w') := fun V hV => by
            obtain ⟨fv, ms, rv, vs, h1, h2, h3, h4, h5⟩ := (HBO.out.1.laterO hV).ex
            exact refImage_any h2 (HBO.out.1.rdOk (by omega))
          have HRR : Hid (∀ V : World, Below w4.heap.size w4 V → ∀ (i : Nat) (hi : i < D.files.length), Calls Tryz.prog 16 #[.pointer (some ⟨q, 0, none⟩), .string D.files[i].name] V fun e w' => ∃ a n c, e = .returned (.tuple #[.slice a n c, .int .i64 0]) ∧ Owns w' V.heap.size (.slice a n c) D.files[i].bytes ∧ Below V.heap.size V w') := fun V hV i hi => by
            obtain ⟨fv, ms, rv, vs, h1, h2, h3, h4, h5⟩ := (HBO.out.1.laterO hV).ex
            obtain ⟨e1, e2⟩ := isRd_errO HBO.out.1.ok (R := rdOf D room) rfl rfl i hi
            refine (refRead_any h2 (HBO.out.1.rdOk (by omega)) D.files[i].name (nm_small (HBO.out.1.ok.nms _ (List.getElem_mem hi)))).mono ?_
            rintro e w' ⟨⟨v, rfl, _, g2⟩, hb⟩
            obtain ⟨f, g3, g4⟩ := g2 e1
            rw [e2] at g3
            simp at g3
            subst g3
            obtain ⟨a, n, c, rfl⟩ := row_form g4
            rw [e1]
            exact ⟨a, n, c, rfl, g4, hb⟩
          have HPW : Hid (∀ V : World, Below w4.heap.size w4 V → Tab V ∧ 1 < w4.heap.size) := fun V hV => by
            have h1 := Below.step HBO.out.1.bel hV
            have h2 := HBO.out.1.bel.size
            exact ⟨tab_same HTB.out.1 (h1.block _ HTB.out.2), by have := HTB.out.2; omega⟩
          have hN64 : D.files.length ≤ 64 := HBO.out.1.ok.few
          go_wp2_with fail
          have hbA : Below w4.heap.size w4 (w4.alloc (.cells (bagCells nilS nilS) 55)) := (Below.refl w4.heap.size w4).alloc (Nat.le_refl _) _
          have hg1 : BagIs (w4.alloc (.cells (bagCells nilS nilS) 55)) w4.heap.size nilS nilS [] [] w4.heap.size := ⟨heap_alloc_new _ _, World.ownsRow_nil _ _ _ _, World.ownsRow_nil _ _ _ _⟩
          refine Calls.mono (HN5.out _ hbA) ?_
          rintro e w6 ⟨nv, rfl, hn6, hb6⟩
          have hn6' := row_monoO hn6 hbA.size
          obtain ⟨na, nc, rfl⟩ := row_val hn6'
          have HI0 : Hid (OwnI w4 w6 w4.heap.size D.files (.slice na D.files.length nc) nilS nilS [] [] []) := ⟨Below.step hbA hb6, Nat.le_refl _, hg1.kept (below_new hb6) (fun e => e) (fun _ _ e => e), Bys.nil _ _, hn6', World.ownsRow_nil _ _ _ _, fun j u f h => by simp at h, Nat.zero_le _, fun k e => by simp [Value.ownBlock] at e, fun u hu => by simp at hu⟩
          obtain ⟨i1, gi, gz0, gz1, gz2⟩ := info_parts Tryz.infoBytes
          clear hbA hg1 hn6 hn6' hb6
          go_wp2_with fail
          go_loopw [10, 12] (fun sv vi wr => ∃ k : Nat, k ≤ D.files.length ∧ vi = .int .i64 (k : Int) ∧ Hid (∃ bv ps us, OwnI w4 wr w4.heap.size D.files (.slice na D.files.length nc) bv sv ps ps us ∧ ps.length = k ∧ us.length = k)) (fun _ vi _ => D.files.length - (intOf vi).toNat)
          case atStart => exact ⟨0, Nat.zero_le _, rfl, ⟨_, _, _, HI0.out, rfl, rfl⟩⟩
          case round =>
            obtain ⟨k, hk, rfl, HI⟩ := hrel
            clear HI0
            by_cases hlt : k < D.files.length
            · have d0 : decide ((k : Int) < (D.files.length : Int)) = true := by simp; omega
              obtain ⟨bv, ps, us, hI, hpl, hul⟩ := HI.out
              obtain ⟨nb, rfl, hcell⟩ := row_first hI.nm (by omega)
              obtain ⟨sa, sc, hsv⟩ := row_val hI.sec
              rw [hul] at hsv
              subst hsv
              have hc : wr.cell? ⟨nb, k, none⟩ = some (.string D.files[k].name) := by rw [hcell k (by omega), nmC_at hlt]
              have HR1 : Hid _ := HRD.out wr hI.bel k hlt
              have HI1 : Hid (OwnI w4 wr w4.heap.size D.files (.slice (some ⟨nb, 0, none⟩) D.files.length nc) bv (.slice sa k sc) ps ps us ∧ ps.length = k ∧ us.length = k) := ⟨hI, hpl, hul⟩
              clear hI hcell HI hpl hul
              go_wp2_with fail
              refine Calls.mono HR1.out ?_
              rintro e w7 ⟨a, n, c, rfl, ho7, hb7⟩
              have HI7 : Hid (OwnI w4 w7 w4.heap.size D.files (.slice (some ⟨nb, 0, none⟩) D.files.length nc) bv (.slice sa k sc) ps (ps ++ [⟨a, n, c⟩]) us) := HI1.out.1.piece hb7 ho7 (HLB.out k hlt)
              have HA : Hid (Calls Tryz.prog 10 #[.pointer (some ⟨w4.heap.size, 0, none⟩), .slice a n c] w7 fun e w' => e = .returned (.tuple #[]) ∧ ∃ bv', BagIs w' w4.heap.size bv' nilS (ps ++ [⟨a, n, c⟩]) [] w4.heap.size ∧ Kept w7 w' (fun k => k = w4.heap.size ∨ bv.ownBlock = some k) ∧ NewRow w7 bv bv') := addBytes_any w4.heap.size bv nilS ps [] w4.heap.size ⟨a, n, c⟩ w7 HI7.out.bag (by have := HI1.out.2.1; omega) HI7.out.bel.size
              clear ho7 hb7 HR1 hc
              go_wp2_with fail
              refine Calls.mono HA.out ?_
              rintro e w8 ⟨rfl, bv8, hb8, hk8, hn8⟩
              have HI8 : Hid (OwnI w4 w8 w4.heap.size D.files (.slice (some ⟨nb, 0, none⟩) D.files.length nc) bv8 (.slice sa k sc) (ps ++ [⟨a, n, c⟩]) (ps ++ [⟨a, n, c⟩]) us) := HI7.out.added hk8 hb8 hn8
              have hc : w8.cell? ⟨nb, k, none⟩ = some (.string D.files[k].name) := by rw [HI8.out.nm.cellAt k (by omega), nmC_at hlt]
              have HR2 : Hid _ := HRD.out w8 HI8.out.bel k hlt
              clear hb8 hk8 hn8 HA HI7
              go_wp2_with fail
              refine Calls.mono HR2.out ?_
              rintro e w9 ⟨a2, n2, c2, rfl, ho9, hb9⟩
              have h9 := HI8.out.later hb9
              have hk0 : Kept w9 (w9.alloc (.cells #[.slice a2 n2 c2] 58)) (fun _ => False) := (Kept.refl w9 _).alloc _
              have hul := HI1.out.2.2
              have hsec := h9.sec
              rw [hul] at hsec
              obtain ⟨v', w10, hr, hown, hgrow, hcase⟩ := app_row (P := Tryz.prog) w4.heap.size 33 33 58 i1 (.slice none 0 0) 1 24 Tryz.underlying33 gi gz0 gz1 gz2 rfl (by decide) _ _ _ (row_kept hsec hk0 (fun _ _ h => h)) w9.heap.size [.slice a2 n2 c2] rfl (heap_alloc_new _ _) (by simp [Value.oneCell']) (by omega) (by decide) (Nat.le_trans h9.bel.size hk0.size)
              have H10 : Hid (∃ bv ps us, OwnI w4 w10 w4.heap.size D.files (.slice (some ⟨nb, 0, none⟩) D.files.length nc) bv v' ps ps us ∧ ps.length = k + 1 ∧ us.length = k + 1) := by
                have hk1 : Kept w9 w10 (fun j => (Value.slice sa k sc).ownBlock = some j) := (hk0.mono (fun _ _ h => h.elim)).trans ⟨hgrow.os, hgrow.tape, hgrow.output, hgrow.size, fun k hk hne => hgrow.block k hk (fun e => hne e.symm)⟩ (fun _ _ h => h)
                have hnew : NewRow w9 (.slice sa k sc) v' := by
                  rcases hcase with ⟨g2, cp, e1, rfl⟩ | ⟨e, _⟩
                  · simp only [Value.slice.injEq] at e1
                    exact .inl (by rw [e1.1]; rfl)
                  · exact .inr ⟨_, e, by simp⟩
                refine ⟨bv8, _, us ++ [.slice a2 n2 c2], h9.grown (by omega) (by simp only [hul]; exact owns_mono ho9 HI8.out.bel.size) (fun j e x hf => ?_) hk1 (by rw [hul]; exact hown) hnew, by simp [HI1.out.2.1], by simp [hul]⟩
                have h1 := HI8.out.feet_lt hf
                have h2 := row_base ho9 e
                omega
              clear h9 hk0 hsec hown hgrow hcase ho9 hb9 HR2 hc HI8 HI1 hul
              go_wp2_with (at_builtin; refine Lib.wpList_append_run_sl _ rfl _ _ 33 rfl _ _ rfl rfl hr ?_)
              go_roundw
              case rel => exact ⟨k + 1, by omega, by go_num, H10.out⟩
              case measure => simp [intOf]; omega
            · have d0 : decide ((k : Int) < (D.files.length : Int)) = false := by simp; omega
              obtain rfl : k = D.files.length := by omega
              obtain ⟨bv, ps, us, hI, hpl, hul⟩ := HI.out
              have HI1 : Hid (OwnI w4 wr w4.heap.size D.files (.slice na D.files.length nc) bv u10 ps ps us ∧ ps.length = D.files.length ∧ us.length = D.files.length) := ⟨hI, hpl, hul⟩
              have hbel := hI.bel
              clear hI hpl hul HI gz0 gz1 gz2 gi i1
              have HN7 : Hid _ := HDN.out wr hbel
              clear hbel
              go_wp2_with fail
              refine Calls.mono HN7.out ?_
              rintro e w7 ⟨rfl, hr7, hb7⟩
              have HT1 : Hid (w7.ownsRow wr.heap.size 9 1 (.slice (some ⟨wr.heap.size, 0, none⟩) D.files.length D.files.length) D.files.length (nmC D.files) ∧ Below wr.heap.size wr w7) := ⟨hr7, hb7⟩
              have HB7 : Hid (BagD w7 w4.heap.size bv nilS nilS ps [] [] w4.heap.size) := (BagD.ofB HI1.out.1.bag).later hb7
              have HL7 : Hid (OwnL w4 w7 D.files (.slice na D.files.length nc) u10 ps us) := (OwnL.of HI1.out.1 HI1.out.2.2).later hb7
              have HA : Hid _ := addTexts_d w4.heap.size bv nilS nilS ps [] [] w4.heap.size (some ⟨wr.heap.size, 0, none⟩) D.files.length D.files.length w7 HB7.out (by decide) HL7.out.bel.size
              clear hr7 hb7 HN7
              go_wp2_with fail
              refine Calls.mono HA.out ?_
              rintro e w8 ⟨rfl, tv, hb8, hk8, _⟩
              have HB8 : Hid (BagD w8 w4.heap.size bv tv nilS ps [.slice (some ⟨wr.heap.size, 0, none⟩) D.files.length D.files.length] [] w4.heap.size) := hb8
              have hkk : Kept w7 w8 (fun k => k = w4.heap.size ∨ nilS.ownBlock = some k ∨ nilS.ownBlock = some k ∨ bv.ownBlock = some k) := hk8.mono (fun k _ e => e.elim .inl (fun e => .inr (.inl e)))
              have HL8 : Hid (OwnL w4 w8 D.files (.slice na D.files.length nc) u10 ps us) := HL7.out.bagged HB7.out (Nat.le_refl _) HI1.out.1.sb hkk
              have HT2 : Hid (w8.ownsRow wr.heap.size 9 1 (.slice (some ⟨wr.heap.size, 0, none⟩) D.files.length D.files.length) D.files.length (nmC D.files)) := row_kept HT1.out.1 hkk (fun k e e' => by
                rcases e' with rfl | e' | e' | e'
                · exact row_not HT1.out.1 HB7.out.row (by decide) e
                · cases e'
                · cases e'
                · exact type_ne (by decide) HT1.out.1 HB7.out.bs k e e')
              have HI8 : Hid _ := HDI.out w8 HL8.out.bel
              have HS8 : Hid (Below w4.heap.size w4 w8) := HL8.out.bel
              clear hb8 hk8 hkk HA HL7 HB7
              go_wp2_with fail
              refine Calls.mono HI8.out ?_
              rintro e w9 ⟨rfl, ⟨vs1, hi9, ha9⟩, hb9⟩
              have HB9 : Hid (BagD w9 w4.heap.size bv tv nilS ps [.slice (some ⟨wr.heap.size, 0, none⟩) D.files.length D.files.length] [] w4.heap.size) := HB8.out.later hb9
              have HL9 : Hid (OwnL w4 w9 D.files (.slice na D.files.length nc) u10 (ps ++ vs1.map pcV) us) := HL8.out.image hb9 hi9 ha9 (fun f hf => by
                obtain ⟨i, hi, rfl⟩ := List.getElem_of_mem hf
                exact HLB.out i hi)
              have HM9 : Hid (ImgAt w9 w8.heap.size (.slice (some ⟨w8.heap.size, 0, none⟩) D.files.length D.files.length) D.files vs1 ∧ w9.ownsRow wr.heap.size 9 1 (.slice (some ⟨wr.heap.size, 0, none⟩) D.files.length D.files.length) D.files.length (nmC D.files)) := ⟨hi9, row_later HT2.out hb9⟩
              have HA : Hid _ := addFiles_d w4.heap.size bv tv nilS ps [.slice (some ⟨wr.heap.size, 0, none⟩) D.files.length D.files.length] [] w4.heap.size (some ⟨w8.heap.size, 0, none⟩) D.files.length D.files.length w9 HB9.out (by decide) HL9.out.bel.size D.files vs1 w8.heap.size w8.heap.size rfl rfl hi9 (by have := HI1.out.2.1; omega)
              clear hi9 ha9 hb9 HI8 HB8 HL8 HT2
              go_wp2_with fail
              refine Calls.mono HA.out ?_
              rintro e w10 ⟨rfl, bv2, fv, hb10, hk10⟩
              have hkk : Kept w9 w10 (fun k => k = w4.heap.size ∨ tv.ownBlock = some k ∨ nilS.ownBlock = some k ∨ bv.ownBlock = some k) := hk10.mono (fun k _ e => e.elim .inl (fun e => .inr (.inr e)))
              have HL10 : Hid (OwnL w4 w10 D.files (.slice na D.files.length nc) u10 (ps ++ vs1.map pcV) us) := HL9.out.bagged HB9.out (Nat.le_refl _) HI1.out.1.sb hkk
              have HR10 : Hid (w10.ownsRow wr.heap.size 9 1 (.slice (some ⟨wr.heap.size, 0, none⟩) D.files.length D.files.length) D.files.length (nmC D.files) ∧ w10.ownsRow w8.heap.size 71 3 (.slice (some ⟨w8.heap.size, 0, none⟩) D.files.length D.files.length) D.files.length (imgC D.files vs1) ∧ BagD w10 w4.heap.size bv2 tv fv (ps ++ vs1.map pcV) [.slice (some ⟨wr.heap.size, 0, none⟩) D.files.length D.files.length] [.slice (some ⟨w8.heap.size, 0, none⟩) D.files.length D.files.length] w4.heap.size ∧ vs1.length = D.files.length ∧ Below w4.heap.size w4 wr ∧ Below w4.heap.size w4 w8) := by
                refine ⟨row_kept HM9.out.2 hkk (fun k e e' => ?_), row_kept HM9.out.1.own hkk (fun k e e' => ?_), hb10, HM9.out.1.len, HI1.out.1.bel, HS8.out⟩
                · rcases e' with rfl | e' | e' | e'
                  · exact row_not HM9.out.2 HB9.out.row (by decide) e
                  · exact type_ne (by decide) HM9.out.2 HB9.out.ts k e e'
                  · cases e'
                  · exact type_ne (by decide) HM9.out.2 HB9.out.bs k e e'
                · rcases e' with rfl | e' | e' | e'
                  · exact row_not HM9.out.1.own HB9.out.row (by decide) e
                  · exact type_ne (by decide) HM9.out.1.own HB9.out.ts k e e'
                  · cases e'
                  · exact type_ne (by decide) HM9.out.1.own HB9.out.bs k e e'
              have HN10 : Hid _ := HDN.out w10 HL10.out.bel
              clear hb10 hk10 hkk HA HL9 HB9 HM9
              go_wp2_with fail
              refine Calls.mono HN10.out ?_
              rintro e w11 ⟨rfl, hr11, hb11⟩
              have HR11 : Hid (w11.ownsRow w10.heap.size 9 1 (.slice (some ⟨w10.heap.size, 0, none⟩) D.files.length D.files.length) D.files.length (nmC D.files) ∧ Below w10.heap.size w10 w11) := ⟨hr11, hb11⟩
              have HI11 : Hid _ := HDI.out w11 (Below.step HL10.out.bel hb11)
              clear hr11 hb11 HN10
              go_wp2_with fail
              refine Calls.mono HI11.out ?_
              rintro e w12 ⟨rfl, ⟨vs2, hi12, ha12⟩, hb12⟩
              have HR12 : Hid (w12.ownsRow w10.heap.size 9 1 (.slice (some ⟨w10.heap.size, 0, none⟩) D.files.length D.files.length) D.files.length (nmC D.files) ∧ ImgAt w12 w11.heap.size (.slice (some ⟨w11.heap.size, 0, none⟩) D.files.length D.files.length) D.files vs2 ∧ Below w10.heap.size w10 w12 ∧ w10.heap.size ≤ w11.heap.size) := ⟨row_later HR11.out.1 hb12, hi12, Below.step HR11.out.2 hb12, HR11.out.2.size⟩
              clear hi12 ha12 hb12 HR11 HI11
              have HA : Hid (Calls Tryz.prog 15 #[.pointer (some ⟨w4.heap.size, 0, none⟩)] w12 fun e w' => e = .returned (.bool true) ∧ OwnF w4 w' D.files (.slice na D.files.length nc) u10 us (.slice (some ⟨w10.heap.size, 0, none⟩) D.files.length D.files.length) (.slice (some ⟨w11.heap.size, 0, none⟩) D.files.length D.files.length)) := by
                obtain ⟨r1, r2, hb, hvl, hwr, hw8⟩ := HR10.out
                obtain ⟨r3, r4, hb12, hle⟩ := HR12.out
                have hL := HL10.out.later hb12
                have hpw := HPW.out w12 hL.bel
                have r1' := row_later r1 hb12
                have r2' := row_later r2 hb12
                have s1 := hwr.size
                have s2 := hw8.size
                refine (bagApart_d w4.heap.size w4.heap.size bv2 tv fv (ps ++ vs1.map pcV) [⟨.slice (some ⟨wr.heap.size, 0, none⟩) D.files.length D.files.length, D.files.length⟩] [⟨.slice (some ⟨w8.heap.size, 0, none⟩) D.files.length D.files.length, D.files.length⟩] _ _ w12 (hb.later hb12)
                  hL.bys.lies hL.bys.apart (by rw [List.length_append, List.length_map, hvl, HI1.out.2.1]; omega) hL.bys.few (fun x ⟨q, hq, hf⟩ => by have := hL.bys.base q hq _ x hf; have := hpw.2; omega)
                  (rowsR_one r1') (apartR_one _ _) (by simp) (fun j hj => by simp at hj; subst hj; show D.files.length ≤ _; omega) (fun e => by have := row_base r1 (blkR_one e); have := hpw.2; omega)
                  (rowsR_one r2') (apartR_one _ _) (by simp) (fun j hj => by simp at hj; subst hj; show D.files.length ≤ _; omega) (fun e => by have := row_base r2 (blkR_one e); have := hpw.2; omega)
                  hpw.1 (Nat.lt_of_lt_of_le hpw.2 hL.bel.size)).mono ?_
                rintro e w' ⟨rfl, w1, hT, hK⟩
                refine ⟨rfl, hL.turned r1' r2' r3 r4 (fun k e e' => ?_) (fun k e e' => ?_) (fun k e e' => ?_) (fun u hu k e x hf => ?_) s1 s2 ((turn_kept hT hK).mono (fun k _ e => e.elim .inl (fun e => .inr (e.elim (fun e => .inl (blkR_one e)) (fun e => .inr (blkR_one e))))))⟩
                · have := row_lt HI1.out.1.nm e
                  simp [Value.ownBlock] at e'
                  omega
                · have := row_lt r1 e'
                  simp [Value.ownBlock] at e
                  omega
                · have := row_lt r2 e'
                  simp [Value.ownBlock] at e
                  omega
                · obtain ⟨i, hi', rfl⟩ := List.getElem_of_mem hu
                  have hif : i < D.files.length := by rw [← r4.len]; exact hi'
                  have := row_base (r4.bys i _ _ (List.getElem?_eq_getElem hi') (List.getElem?_eq_getElem hif)) e
                  obtain ⟨q, hq, hf⟩ := hf
                  have := ((HL10.out.bys.lies q hq).foot_lt hf).1
                  omega
              clear HR10 HR12 HL10 HI1 HPW HLB
              go_wp2_with fail
              refine Calls.mono HA.out ?_
              rintro e w13 ⟨rfl, hF⟩
              obtain ⟨sa, sc, hsv⟩ := row_val hF.sec
              rw [hF.ul] at hsv
              subst hsv
              have HF : Hid _ := hF
              clear hF HA
              go_wp2_with fail
              go_loopw [19] (fun vi wr => ∃ k : Nat, k ≤ D.files.length ∧ vi = .int .i64 (k : Int) ∧ Hid (OwnF w4 wr D.files (.slice na D.files.length nc) (.slice sa D.files.length sc) us (.slice (some ⟨w10.heap.size, 0, none⟩) D.files.length D.files.length) (.slice (some ⟨w11.heap.size, 0, none⟩) D.files.length D.files.length))) (fun vi _ => D.files.length - (intOf vi).toNat)
              case atStart => exact ⟨0, Nat.zero_le _, rfl, HF.out⟩
              case round =>
                obtain ⟨k, hk, rfl, HI⟩ := hrel
                clear HF
                by_cases hlt : k < D.files.length
                · have d0 : decide ((k : Int) < (D.files.length : Int)) = true := by simp; omega
                  obtain ⟨nb, rfl, hcell⟩ := row_first HI.out.nm (by omega)
                  have hc : wr.cell? ⟨nb, k, none⟩ = some (.string D.files[k].name) := by rw [hcell k (by omega), nmC_at hlt]
                  have hul := HI.out.ul
                  obtain ⟨sb, rfl, _⟩ := row_first HI.out.sec (by omega)
                  have HRd : Hid _ := HRR.out wr HI.out.bel k hlt
                  clear hcell hul
                  go_wp2_with fail
                  refine Calls.mono HRd.out ?_
                  rintro e w14 ⟨a, n, c, rfl, ho, hb⟩
                  have h2 := HI.out.later hb
                  have hku : k < us.length := by rw [h2.ul]; exact hlt
                  obtain ⟨ua, un, uc, hu⟩ := row_form (h2.ub k _ _ (List.getElem?_eq_getElem hku) (List.getElem?_eq_getElem hlt))
                  have hc2 : w14.cell? ⟨sb, k, none⟩ = some (.slice ua un uc) := by
                    have hs := h2.sec
                    rw [h2.ul] at hs
                    rw [hs.cellAt k (by omega), List.getElem?_eq_getElem hku, hu]
                  have HE : Hid (Calls Tryz.prog 17 #[.slice ua un uc, .slice a n c] w14 fun e w' => e = .returned (.bool true) ∧ Below w14.heap.size w14 w') := by
                    have ho2 := h2.ub k _ _ (List.getElem?_eq_getElem hku) (List.getElem?_eq_getElem hlt)
                    rw [hu] at ho2
                    exact eqBytes_alike _ _ _ _ (Sees.own ho2) (Sees.own ho)
                  have HI2 : Hid _ := h2
                  clear h2 hku hu ho hb HRd HI hc
                  go_wp2_with fail
                  refine Calls.mono HE.out ?_
                  rintro e w15 ⟨rfl, hb15⟩
                  have HI3 : Hid _ := HI2.out.later hb15
                  clear hb15 HE HI2 hc2
                  go_wp2_with fail
                  go_roundw
                  case rel => exact ⟨k + 1, by omega, by go_num, HI3.out⟩
                  case measure => simp [intOf]; omega
                · have d0 : decide ((k : Int) < (D.files.length : Int)) = false := by simp; omega
                  obtain rfl : k = D.files.length := by omega
                  have HT : Hid _ := eqNames_same HI.out.tx HI.out.nm hN64
                  go_wp2_with fail
                  refine Calls.mono HT.out ?_
                  rintro e w14 ⟨rfl, nq, rfl⟩
                  have HI2 : Hid _ := HI.out.later (below_drewN (Below.refl _ _) nq)
                  have HR : Hid _ := HRI.out _ HI2.out.bel
                  clear HI HT
                  go_wp2_with fail
                  refine Calls.mono HR.out ?_
                  rintro e w15 ⟨iv, ius, rfl, hi15, hb15⟩
                  have h3 := HI2.out.later hb15
                  have HE : Hid (Calls Tryz.prog 19 #[.slice (some ⟨w11.heap.size, 0, none⟩) D.files.length D.files.length, iv] w15 fun e w' => e = .returned (.bool true) ∧ ∃ n, w' = w15.drewN n) := by
                    obtain ⟨B, vs, hi⟩ := h3.im
                    exact eqFiles_like hi hi15 hN64
                  have HI3 : Hid _ := h3
                  clear h3 hi15 hb15 HR HI2
                  go_wp2_with fail
                  refine Calls.mono HE.out ?_
                  rintro e w16 ⟨rfl, nq2, rfl⟩
                  have HI4 : Hid _ := HI3.out.later (below_drewN (Below.refl _ _) nq2)
                  have HAL : Hid _ := alike_any (HBO.out.1.laterO HI4.out.bel) (by omega)
                  clear HE HI3
                  go_wp2_with fail
                  refine Calls.mono HAL.out ?_
                  rintro e w17 ⟨rfl, hb17⟩
                  have H17 : Hid (Below w.heap.size w w17) := Below.step HBO.out.1.bel (Below.step HI4.out.bel hb17)
                  clear hb17 HAL HI4
                  go_wp2_with fail
                  go_ret
                  exact ⟨rfl, H17.out⟩
        · exact absurd HR0.out hne
      · have HR0 : Hid _ := hr0
        have HB3 : Hid _ := hb3
        have HN2 : Hid _ := refFrom_any (w := w3) (n := w.heap.size) room (.slice ta fl.length tc) fl (SeesFls.kept HFL.out (Below.kept (Below.step H2.out hb3)) (fun k hk e => by omega)) (by have := H2.out.size; have := hb3.size; omega) hq.1 hq.2
        rw [← HRR.out] at HN2
        generalize r.1 = E at *
        clear hb3 hr0 HN
        go_wp2_with fail
        refine Calls.mono HN2.out ?_
        rintro e w4 (⟨h0, _⟩ | ⟨_, rfl, hb4⟩)
        · exact absurd h0 HR0.out
        · have HB4 : Hid (Below w.heap.size w w4) := Below.step H2.out (Below.step HB3.out hb4)
          clear hb4 HN2
          go_wp2_with fail
          refine Calls.mono (lives_yes w4) ?_
          rintro e w5 ⟨rfl, hb5⟩
          have H5 : Hid (Below w.heap.size w w5) := Below.step HB4.out hb5
          clear hb5
          go_wp2_with fail
          go_ret
          exact ⟨rfl, H5.out⟩
    · have HN : Hid _ := from_bad room (.slice ta fl.length tc) w2 hq
      have HN2 : Hid _ := refFrom_bad room (.slice ta fl.length tc) w2 hq
      go_wp2_with fail
      refine Calls.mono HN.out ?_
      rintro e w3 ⟨rfl, hw3⟩
      subst w3
      go_wp2_with fail
      refine Calls.mono HN2.out ?_
      rintro e w3 ⟨rfl, hw3⟩
      subst w3
      go_wp2_with fail
      refine Calls.mono (lives_yes w2) ?_
      rintro e w3 ⟨rfl, hb3⟩
      have H3 : Hid (Below w.heap.size w w3) := Below.step H2.out hb3
      clear hb3
      go_wp2_with fail
      go_ret
      exact ⟨rfl, H3.out⟩
  · go_wp2_with fail
    go_ret
    exact ⟨rfl, H2.out⟩
end Go.Proofs.YtbdokdhconhifaaGreatDoor
