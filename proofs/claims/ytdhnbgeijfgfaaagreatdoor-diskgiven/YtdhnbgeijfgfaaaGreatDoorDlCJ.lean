/- A file of an image taken onto a new disk. -/
import Derived.Test.YtdhnbgeijfgfaaaGreatDoorDkYJ
import Derived.Deep.RegionHeld
namespace Go.Proofs.YtdhnbgeijfgfaaaGreatDoor
open Go.RowKit Go.Shelf
set_option maxRecDepth 8000

set_option maxHeartbeats 1000000 in
theorem take_yes {w : World} {p : Nat} {fv : Value} {ms : List FiM} {D : DkD} (h : IsDk w p fv ms D) (ok : DkOk D) (f : FiD) (u : Value) (hu : Sees w u f.bytes) (hap : f.bytes ≠ [] → ∀ k, u.ownBlock = some k → k < w.heap.size ∧ k ∉ foot p fv ms) (hnm : isNm f.name = true) (hno : hasF D.files f.name = false) (hlf : D.files.length ≤ 63) (hd : 0 ≤ f.dur ∧ f.dur ≤ f.bytes.length) (hfit : (f.bytes.length : Int) ≤ D.room - usedD D.files) :
    Calls Tryz.prog 22 #[.pointer (some ⟨p, 0, none⟩), .agg #[.string f.name, u, .int .i64 f.dur]] w fun e w' => e = .returned (.int .i64 0) ∧ ∃ fv' ms', DkTo w p fv ms w' { D with files := insF D.files f } fv' ms' := by
  obtain ⟨V, eV⟩ : ∃ V, V = w.alloc (.cells #[.string f.name, u, .int .i64 f.dur] 38) := ⟨_, rfl⟩
  have hbV : Below w.heap.size w V := by rw [eV]; exact one_allocK _ _
  have hrow : V.heap[w.heap.size]? = some (.cells #[.string f.name, u, .int .i64 f.dur] 38 (0, 0)) := by rw [eV]; exact heap_alloc_new w _
  have hszV : w.heap.size < V.heap.size := lt_of_block hrow
  have d0 : V.cell? ⟨w.heap.size, 0, none⟩ = some (.string f.name) := cell_of_row V _ 0 _ _ _ hrow
  have d1 : V.cell? ⟨w.heap.size, 1, none⟩ = some u := cell_of_row V _ 1 _ _ _ hrow
  have d2 : V.cell? ⟨w.heap.size, 2, none⟩ = some (.int .i64 f.dur) := cell_of_row V _ 2 _ _ _ hrow
  have hV : IsDk V p fv ms D := h.later hbV
  have hp0 := lt_of_block h.row
  have hpV := lt_of_block hV.row
  have hus : usedD D.files ≤ 1000000000000 := by have := ok.fits; have := ok.r1; omega
  obtain ⟨ua, uc, huv, huc, hum, _⟩ := id hu
  unfold maxLen at hum
  have hfl : f.bytes.length ≤ 16777216 := by have := ok.r1; have := ok.fits; omega
  have HN : Hid (∀ wx : World, Calls Tryz.prog 51 #[.string f.name] wx fun e w' => e = .returned (.bool true) ∧ w' = wx) := fun wx => by
    have := dkName_any f.name wx
    rw [hnm] at this
    exact this
  have HF : Hid (∀ m, Calls Tryz.prog 52 #[.pointer (some ⟨p, 0, none⟩), .string f.name] (V.drewN m) fun e w' => e = .returned (.pointer none) ∧ w' = V.drewN m) := fun m => by
    have := find_any (hV.later (below_drewN (Below.refl _ _) m)) ok.rise ok.few f.name
    rw [hno, if_neg (by simp)] at this
    exact this
  have HC : Hid (∀ m, Calls Tryz.prog 53 #[.pointer (some ⟨p, 0, none⟩)] (V.drewN m) fun e w' => e = .returned (.bool false) ∧ w' = V.drewN m) := fun m => by
    have := crowded_any (hV.later (below_drewN (Below.refl _ _) m))
    rw [decide_eq_false (by omega)] at this
    exact this
  have hd0 : decide (f.dur < 0) = false := decide_eq_false (by omega)
  have hd1 : decide (f.dur > (f.bytes.length : Int)) = false := decide_eq_false (by omega)
  have HE : Hid _ := eV
  have HH : Hid (IsDk w p fv ms D ∧ DkOk D ∧ IsDk V p fv ms D ∧ Sees w u f.bytes ∧ (f.bytes ≠ [] → ∀ k, u.ownBlock = some k → k < w.heap.size ∧ k ∉ foot p fv ms) ∧ Below w.heap.size w V ∧ D.files.length ≤ 63 ∧ (f.bytes.length : Int) ≤ D.room - usedD D.files ∧ usedD D.files ≤ 1000000000000) := ⟨h, ok, hV, hu, hap, hbV, hlf, hfit, hus⟩
  subst huv
  clear h ok hV hu hap hbV hlf hfit hus hnm hno eV hrow hd
  go_enter Tryz.func22, Tryz.ntmps22
  go_upto_region 1 with fail
  rw [← HE.out]
  go_quiet ((first | (go_at_call 51; exact Calls.quiet_of_same (HN.out _)) | (go_at_call 52; exact Calls.quiet_of_same (HF.out _)) | (go_at_call 53; exact Calls.quiet_of_same (HC.out _))))
  obtain ⟨V1, hV1⟩ : ∃ V1, V1 = V.drewN nq := ⟨_, rfl⟩
  rw [← hV1]
  have hb1 : Below V.heap.size V V1 := by rw [hV1]; exact below_drewN (Below.refl _ _) _
  have d0' : V1.cell? ⟨w.heap.size, 0, none⟩ = some (.string f.name) := by rw [hV1]; exact d0
  have d1' : V1.cell? ⟨w.heap.size, 1, none⟩ = some (.slice ua f.bytes.length uc) := by rw [hV1]; exact d1
  have d2' : V1.cell? ⟨w.heap.size, 2, none⟩ = some (.int .i64 f.dur) := by rw [hV1]; exact d2
  have hs1 : w.heap.size < V1.heap.size := Nat.lt_of_lt_of_le hszV hb1.size
  have h1 : IsDk V1 p fv ms D := HH.out.2.2.1.later hb1
  have hp1 := lt_of_block h1.row
  have hft := fits_any h1 HH.out.2.1.few HH.out.2.2.2.2.2.2.2.2 HH.out.2.1.r0 (by have := HH.out.2.1.r1; omega) f.bytes.length
  rw [decide_eq_true HH.out.2.2.2.2.2.2.2.1] at hft
  have HT : Hid _ := hft
  have H1 : Hid (IsDk V1 p fv ms D ∧ Below w.heap.size w V1) := ⟨h1, Below.step HH.out.2.2.2.2.2.1 hb1⟩
  clear hft h1 hb1 hV1 d0 d1 d2 HN HF HC
  go_wp2_with fail
  refine Calls.mono HT.out ?_
  rintro e w2 ⟨rfl, hw2⟩
  have hb2 : Below V1.heap.size V1 w2 := by rw [hw2]; exact below_drewN (Below.refl _ _) 1
  have e0 : w2.cell? ⟨w.heap.size, 0, none⟩ = some (.string f.name) := cell_later d0' hb2 (Nat.le_refl _)
  have e1 : w2.cell? ⟨w.heap.size, 1, none⟩ = some (.slice ua f.bytes.length uc) := cell_later d1' hb2 (Nat.le_refl _)
  have e2 : w2.cell? ⟨w.heap.size, 2, none⟩ = some (.int .i64 f.dur) := cell_later d2' hb2 (Nat.le_refl _)
  have h2 : IsDk w2.drew p fv ms D := (H1.out.1.later hb2).later (below_drewN (Below.refl _ _) 1)
  have hp2 : p < w2.heap.size := Nat.lt_of_lt_of_le hp1 hb2.size
  have hs2 : w.heap.size < w2.heap.size := Nat.lt_of_lt_of_le hs1 hb2.size
  have hb2d : Below w.heap.size w w2.drew := Below.step (Below.step H1.out.2 hb2) (below_drewN (Below.refl _ _) 1)
  have k0 : w2.drew.cell? ⟨w.heap.size, 0, none⟩ = some (.string f.name) := e0
  have hxf : w.heap.size ∉ foot p fv ms := fun e => by have := HH.out.1.lt e; omega
  have HA : Hid (Calls Tryz.prog 55 #[.pointer (some ⟨p, 0, none⟩), .string f.name] w2.drew fun e w' => e = .returned (.pointer (some ⟨w2.heap.size, 0, none⟩)) ∧ Hid (∃ fv', DkTo w2.drew p fv ms w' { D with files := insF D.files ⟨f.name, [], 0⟩ } fv' (ms.take (pl D.files f.name) ++ ⟨w2.heap.size, .slice none 0 0⟩ :: ms.drop (pl D.files f.name))) ∧ w'.cell? ⟨w.heap.size, 0, none⟩ = some (.string f.name) ∧ w'.cell? ⟨w.heap.size, 1, none⟩ = some (.slice ua f.bytes.length uc) ∧ w'.cell? ⟨w.heap.size, 2, none⟩ = some (.int .i64 f.dur)) := by
    refine (dkAdd_any h2 HH.out.2.1.rise HH.out.2.2.2.2.2.2.1 f.name).mono ?_
    rintro e w3 ⟨rfl, fv3, ht3⟩
    have hc : ∀ j x, w2.cell? ⟨w.heap.size, j, none⟩ = some x → w3.cell? ⟨w.heap.size, j, none⟩ = some x := fun j x hj => by
      have hj' : w2.drew.cell? ⟨w.heap.size, j, none⟩ = some x := hj
      rw [World.cell?_of_block (ht3.kept.block w.heap.size (World.block_lt_of_cell? w2.drew ⟨w.heap.size, j, none⟩ hj') hxf)]
      exact hj'
    exact ⟨rfl, ⟨fv3, ht3⟩, hc _ _ e0, hc _ _ e1, hc _ _ e2⟩
  have H2 : Hid _ := hb2d
  clear hw2 hb2 h2 hb2d HT d0' d1' d2'
  go_upto_region 7 with fail
  go_region_held (fun w' => w'.cell? ⟨w.heap.size, 0, none⟩ = some (.string f.name)) (first | exact k0 | exact k1) (first | (go_at_call 55; refine HA.out.mono ?_; rintro e w3 ⟨rfl, H3, k1, k2, k3⟩))
  obtain ⟨fv3, ht3⟩ := H3.out
  have hP : pl D.files f.name ≤ ms.length := by rw [HH.out.1.len]; exact pl_le _ _
  have hPf : pl D.files f.name ≤ D.files.length := pl_le _ _
  have hm3 : (ms.take (pl D.files f.name) ++ ⟨w2.heap.size, .slice none 0 0⟩ :: ms.drop (pl D.files f.name))[pl D.files f.name]? = some (⟨w2.heap.size, .slice none 0 0⟩ : FiM) := by rw [getElem?_ins _ _ _ _ hP, if_neg (by omega), if_pos rfl]
  have hf3 : (insF D.files ⟨f.name, [], 0⟩)[pl D.files f.name]? = some (⟨f.name, [], 0⟩ : FiD) := by unfold insF; rw [getElem?_ins _ _ _ _ hPf, if_neg (by omega), if_pos rfl]
  have hfm : FileAt w3 ⟨w2.heap.size, .slice none 0 0⟩ ⟨f.name, [], 0⟩ := ht3.is.file _ _ _ hm3 hf3
  have hk3 : Kept w w3 (· ∈ foot p fv ms) := (DkTo.after H2.out ht3).kept
  have hP2 := fappend_any hfm (fun k e => by cases e) (.slice ua f.bytes.length uc) f.bytes (HH.out.2.2.2.1.keptN hk3 (fun hy k e => (HH.out.2.2.2.2.1 hy k e).2)) (fun hy k e e' => by
    simp [FiM.blks, Value.ownBlock] at e'
    have := (HH.out.2.2.2.2.1 hy k e).1
    omega) (by simp; omega)
  have HP : Hid _ := hP2
  have HT3 : Hid _ := ht3
  have HM3 : Hid _ := And.intro hm3 (And.intro hP hPf)
  have hlm : w2.heap.size < w3.heap.size := lt_of_block hfm.row
  have hs3 : w.heap.size < w3.heap.size := Nat.lt_of_lt_of_le (Nat.lt_trans hs2 hlm) (Nat.le_refl _)
  clear ht3 hP2 hfm hm3 hf3 hk3 hP hPf H3 HA
  go_wp2_with fail
  refine Calls.mono HP.out ?_
  rintro e w4 ⟨rfl, v', ht⟩
  have h4 := HT3.out.is.setFile HM3.out.1 ht
  have hm4 : ((ms.take (pl D.files f.name) ++ ⟨w2.heap.size, .slice none 0 0⟩ :: ms.drop (pl D.files f.name)).set (pl D.files f.name) ⟨w2.heap.size, v'⟩)[pl D.files f.name]? = some (⟨w2.heap.size, v'⟩ : FiM) := by
    rw [List.getElem?_set, if_pos rfl, if_pos (List.getElem?_eq_some_iff.1 HM3.out.1).1]
  have hfm4 : FileAt w4 ⟨w2.heap.size, v'⟩ ⟨f.name, [] ++ f.bytes, 0⟩ := ht.is
  obtain ⟨q0, q1, q2⟩ := fl_cells' hfm4
  have fq : w4.frozen? ⟨w2.heap.size, 2, none⟩ = false := frozen_of_row w4 _ 2 _ _ hfm4.row
  have hl4 : w2.heap.size < w4.heap.size := lt_of_block hfm4.row
  have hs4 : w.heap.size < w4.heap.size := Nat.lt_trans hs2 hl4
  have c4 : w4.cell? ⟨w.heap.size, 2, none⟩ = some (.int .i64 f.dur) := by
    rw [World.cell?_of_block (ht.kept.block w.heap.size (World.block_lt_of_cell? w3 ⟨w.heap.size, 2, none⟩ k3) (fun e => by simp [FiM.blks, Value.ownBlock] at e; omega))]
    exact k3
  have hndm := nodup_blks h4.is.nd (List.mem_of_getElem? hm4)
  have HR : Hid (∃ fv' ms', DkTo w p fv ms (w4.setCell ⟨w2.heap.size, 2, none⟩ (.int .i64 f.dur)) { D with files := insF D.files f } fv' ms') := by
    have hk : Kept w4 (w4.setCell ⟨w2.heap.size, 2, none⟩ (.int .i64 f.dur)) (fun k => k = w2.heap.size) := Kept.setCell (Kept.refl _ (fun k => k = w2.heap.size)) ⟨w2.heap.size, 2, none⟩ _ (fun _ => rfl)
    have hvq : ∀ k, v'.ownBlock = some k → k ≠ w2.heap.size := fun k e e' => by
      have := (List.nodup_cons.1 hndm).1
      rw [show (⟨w2.heap.size, v'⟩ : FiM).v.ownBlock = some k from e, e'] at this
      simp at this
    have ht5 : FlTo w4 ⟨w2.heap.size, v'⟩ (w4.setCell ⟨w2.heap.size, 2, none⟩ (.int .i64 f.dur)) ⟨w2.heap.size, v'⟩ ⟨f.name, [] ++ f.bytes, f.dur⟩ := ⟨⟨heap_setK _ hfm4.row, hfm4.own.kept hk hvq⟩, rfl, hk.mono (fun k _ e => by rw [e]; exact blks_q _), fun k e => .inl e⟩
    have h5 := h4.is.setFile hm4 ht5
    have e : ((insF D.files ⟨f.name, [], 0⟩).set (pl D.files f.name) ⟨f.name, [] ++ f.bytes, 0⟩).set (pl D.files f.name) ⟨f.name, [] ++ f.bytes, f.dur⟩ = insF D.files f := by
      rw [List.set_set]
      exact ins_set _ _ _ _ HM3.out.2.2
    have h6 := h5
    simp only at h6
    rw [e] at h6
    exact ⟨_, _, DkTo.after H2.out (HT3.out.trans (h4.trans h6))⟩
  clear ht h4 hm4 hfm4 q0 q1 hndm HP HT3 HM3
  go_wp2_with fail
  go_ret
  exact ⟨rfl, HR.out⟩
end Go.Proofs.YtdhnbgeijfgfaaaGreatDoor
