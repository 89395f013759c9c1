/- The document's disk: Names, Image, Read. -/
import Derived.Test.YtbdokdhconhifaaGreatDoorRdNJ
import Derived.Test.YtbdokdhconhifaaGreatDoorRdJJ
namespace Go.Proofs.YtbdokdhconhifaaGreatDoor
open Go.RowKit Go.Shelf
set_option maxRecDepth 8000

theorem new_cell1R (w : World) (a : Value) (t : TypeId) : ∀ j u, [a][j]? = some u → (w.alloc (.cells #[a] t)).cell? ((⟨w.heap.size, 0, none⟩ : Addr).add j) = some u := by
  intro j u hj
  rw [addrAddR, Nat.zero_add, cell_of_row _ _ _ _ _ _ (heap_alloc_new _ _), ← hj]
  simp

theorem one_cell1R (n : ByteArray) : ∀ u ∈ ([.string n] : List Value), u.oneCell' = true := by
  intro u hu
  simp only [List.mem_cons, List.not_mem_nil, or_false] at hu
  rcases hu with rfl
  rfl

set_option maxHeartbeats 1000000 in
theorem refNames_any {w : World} {p : Nat} {fv : Value} {vs : List Value} {R : RD} (h : IsRd w p fv vs R) (hfew : R.files.length ≤ 64) :
    Calls Tryz.prog 8 #[.pointer (some ⟨p, 0, none⟩)] w fun e w' => ∃ v', e = .returned v' ∧ w'.ownsRow w.heap.size 9 1 v' R.files.length (nmC R.files) ∧ Below w.heap.size w w' := by
  obtain ⟨fa, fc, hfv, hfc, hfm⟩ := img_shape h.img
  have c1 := h.cells.2.1
  have hl := lt_of_block h.row
  have HH : Hid _ := h.img
  obtain ⟨N, hN⟩ : ∃ N, N = R.files.length := ⟨_, rfl⟩
  rw [hfv] at c1 HH
  rw [← hN] at c1 hfew hfc HH ⊢
  have HN : Hid _ := hN
  have HFV : Hid _ := hfv
  obtain ⟨i0, hi, hz0, hz1, hz2⟩ := info_parts Tryz.infoStrD
  clear h hN hfv
  go_enter Tryz.func8, Tryz.ntmps8
  go_wp2_with fail
  go_loopw [3, 4] (fun vo vi wr => ∃ k : Nat, k ≤ N ∧ vi = .int .i64 k ∧ Hid (wr.ownsRow w.heap.size 9 1 vo k (nmC (R.files.take k)) ∧ Below w.heap.size w wr)) (fun _ vi _ => N - (intOf vi).toNat)
  case atStart => exact ⟨0, Nat.zero_le _, rfl, World.ownsRow_nil _ _ _ _, Below.refl _ _⟩
  case round =>
    obtain ⟨k, hk, rfl, HO⟩ := hrel
    have d1 := cell_later c1 HO.out.2 (Nat.le_refl _)
    by_cases hlt : k < N
    · have hlt1 : k < R.files.length := by rw [← HN.out]; exact hlt
      obtain ⟨g, c, u, e, hzk, a0, a1, a2, _⟩ := img_at HH.out HO.out.2 k hlt1
      obtain ⟨rfl, hNf, rfl⟩ := Value.slice.inj e
      clear hNf
      have hst : Hid (nmC (R.files.take (k + 1)) = nmC (R.files.take k) ++ [.string R.files[k].name]) := by
        show _ = _
        unfold nmC
        rw [List.take_succ_eq_append_getElem hlt1, List.map_append]
        rfl
      have hsz := HO.out.2.size
      clear e hzk a1 a2
      generalize R.files[k].name = nm at *
      generalize nmC (R.files.take k) = ys at *
      go_wp2_with (at_builtin; refine wpList_append_own_at _ rfl _ _ 56 rfl w.heap.size 9 i0 _ 1 16 Tryz.underlying56 hi hz0 hz1 hz2 rfl (by decide) u3 k ys rfl (row_kept' HO.out.1 ((Kept.refl wr (fun _ => False)).alloc _) (fun _ _ h => h)) ⟨wr.heap.size, 0, none⟩ 1 1 [.string nm] rfl rfl (new_cell1R wr _ _) (one_cell1R _) (by unfold maxLen; omega) (by omega) (by show w.heap.size ≤ (World.alloc wr _).heap.size; rw [World.size_alloc]; exact Nat.le_succ_of_le (by assumption)) ?_)
      intro v' w1 hown' hgrow _ _
      have HR : Hid (w1.ownsRow w.heap.size 9 1 v' (k + 1) (ys ++ [.string nm]) ∧ Below w.heap.size w w1) :=
        ⟨hown', (HO.out.2.alloc HO.out.2.size _).grown hgrow (by simp; omega) (fun k hk => (HO.out.1.lt k hk).1)⟩
      clear hown' hgrow HO a0 d1
      go_wp2_with fail
      go_roundw
      case rel => exact ⟨k + 1, by omega, by go_num, by rw [hst.out]; exact HR⟩
      case measure => simp [intOf]; omega
    · obtain rfl : k = N := by omega
      have e : R.files.take k = R.files := List.take_of_length_le (by have := HN.out; omega)
      rw [e] at HO
      go_wp2_with fail
      go_ret
      exact ⟨_, rfl, HO.out⟩

set_option maxHeartbeats 1000000 in
theorem copyFiles_any {w : World} {B : Nat} {v : Value} {fs : List FiD} {vs : List Value} (h : ImgAt w B v fs vs) (hfew : fs.length ≤ 64) (hu : usedD fs ≤ 1000000000) :
    Calls Tryz.prog 60 #[v] w fun e w' => ∃ v' us, e = .returned v' ∧ ImgAt w' w.heap.size v' fs us ∧ Below w.heap.size w w' ∧ (∀ u ∈ us, ∀ k, u.ownBlock = some k → v'.ownBlock ≠ some k) := by
  obtain ⟨fa, fc, rfl, hfc, hfm⟩ := img_shape h
  obtain ⟨N, hN⟩ : ∃ N, N = fs.length := ⟨_, rfl⟩
  have HH : Hid _ := h
  have HU : Hid _ := hu
  rw [← hN] at hfew hfc HH ⊢
  have HN : Hid _ := hN
  obtain ⟨i0, hi, hz0, hz1, hz2⟩ := info_parts Tryz.infoFile
  clear h hN hu
  go_enter Tryz.func60, Tryz.ntmps60
  go_wp2_with fail
  go_loopw [3, 4] (fun vo vi wr => ∃ k : Nat, k ≤ N ∧ vi = .int .i64 k ∧ Hid (∃ us, ImgAt wr w.heap.size vo (fs.take k) us ∧ Below w.heap.size w wr ∧ (∀ u ∈ us, ∀ k, u.ownBlock = some k → vo.ownBlock ≠ some k))) (fun _ vi _ => N - (intOf vi).toNat)
  case atStart => exact ⟨0, Nat.zero_le _, rfl, [], ⟨rfl, World.ownsRow_nil _ _ _ _, fun i u f h => by simp at h⟩, Below.refl _ _, fun u h => by simp at h⟩
  case round =>
    obtain ⟨k, hk, rfl, HO⟩ := hrel
    obtain ⟨us, hus, hbel, hap⟩ := HO.out
    by_cases hlt : k < N
    · have hlt1 : k < fs.length := by rw [← HN.out]; exact hlt
      obtain ⟨g, c, u, e, hzk, a0, a1, a2, ho⟩ := img_at HH.out hbel k hlt1
      obtain ⟨rfl, hNf, rfl⟩ := Value.slice.inj e
      clear hNf e hzk
      obtain ⟨x1, y1, hu2, _⟩ := own_shape (owns_mono ho (Nat.zero_le _))
      have hst : Hid (fs.take (k + 1) = fs.take k ++ [fs[k]]) := List.take_succ_eq_append_getElem hlt1
      have hsz := hbel.size
      have hlen : (fs.take k).length = k := by rw [List.length_take]; have := HN.out; omega
      have hbl : fs[k].bytes.length ≤ 70000000000000 := by
        have := len_used (List.getElem_mem hlt1)
        have := HU.out
        omega
      subst hu2
      -- the box of f
      obtain ⟨W, eW⟩ : ∃ W, W = wr.alloc (.cells #[.string fs[k].name, .slice x1 fs[k].bytes.length y1, .int .i64 fs[k].dur] 71) := ⟨_, rfl⟩
      have hbW : Below wr.heap.size wr W := by rw [eW]; exact one_allocK _ _
      have hrowW : W.heap[wr.heap.size]? = some (.cells #[.string fs[k].name, .slice x1 fs[k].bytes.length y1, .int .i64 fs[k].dur] 71 (0, 0)) := by rw [eW]; exact heap_alloc_new wr _
      have HC : Hid (Calls Tryz.prog 28 #[.slice x1 fs[k].bytes.length y1] W fun e w' => ∃ x' y', e = .returned (.slice x' fs[k].bytes.length y') ∧ Owns w' W.heap.size (.slice x' fs[k].bytes.length y') fs[k].bytes ∧ Below W.heap.size W w') := by
        have hs : Sees W (.slice x1 fs[k].bytes.length y1) fs[k].bytes := Sees.own (ho.kept (Below.kept hbW) (fun q e e' => by have := rows_ltK ho e; omega))
        refine (copyBytes_any _ _ W hs hbl).mono ?_
        rintro e w' ⟨v', rfl, ho3, hb3⟩
        obtain ⟨x', y', e', _⟩ := own_shape (owns_mono ho3 (Nat.zero_le _))
        subst e'
        exact ⟨x', y', rfl, ho3, hb3⟩
      have HI : Hid (ImgAt wr w.heap.size u3 (fs.take k) us ∧ Below w.heap.size w wr ∧ (∀ u ∈ us, ∀ q, u.ownBlock = some q → u3.ownBlock ≠ some q) ∧ Below wr.heap.size wr W) := ⟨hus, hbel, hap, hbW⟩
      have HF : Hid _ := hrowW
      have hWs : W.heap.size = wr.heap.size + 1 := by rw [eW, World.size_alloc]
      clear hus hbel hap ho HO hbW
      have HEW : Hid _ := eW
      clear eW hrowW
      go_wp2_with fail
      rw [← HEW.out]
      refine Calls.mono HC.out ?_
      rintro e w3 ⟨x', y', rfl, ho3, hb3⟩
      have hrow3 : w3.heap[wr.heap.size]? = some (.cells #[.string fs[k].name, .slice x1 fs[k].bytes.length y1, .int .i64 fs[k].dur] 71 (0, 0)) := (Below.kept hb3).heap HF.out (fun e => by omega)
      have hl3 := lt_of_block hrow3
      have fz3 : w3.frozen? ⟨wr.heap.size, 1, none⟩ = false := frozen_of_row w3 _ _ _ _ hrow3
      have q0 : w3.cell? ⟨wr.heap.size, 0, none⟩ = some (.string fs[k].name) := cell_of_row w3 _ 0 _ _ _ hrow3
      have q1 : w3.cell? ⟨wr.heap.size, 1, none⟩ = some (.slice x1 fs[k].bytes.length y1) := cell_of_row w3 _ 1 _ _ _ hrow3
      have q2 : w3.cell? ⟨wr.heap.size, 2, none⟩ = some (.int .i64 fs[k].dur) := cell_of_row w3 _ 2 _ _ _ hrow3
      obtain ⟨w4, e4⟩ : ∃ w4, w4 = w3.setCell ⟨wr.heap.size, 1, none⟩ (.slice x' fs[k].bytes.length y') := ⟨_, rfl⟩
      have hb34 : Kept w3 w4 (fun q => q = wr.heap.size) := by rw [e4]; exact Kept.setCell (Kept.refl _ (fun q => q = wr.heap.size)) ⟨wr.heap.size, 1, none⟩ _ (fun _ => rfl)
      have hk4 : Kept wr w4 (fun q => wr.heap.size ≤ q) := ((Below.kept HI.out.2.2.2).trans' (Below.kept hb3) (fun q _ e => e) (fun q _ e => by omega)).trans' hb34 (fun q _ e => e) (fun q _ e => by omega)
      have ho4 : Owns w4 W.heap.size (.slice x' fs[k].bytes.length y') fs[k].bytes := ho3.kept hb34 (fun q e e' => by have := (ho3.lt q e).1; omega)
      have hown4 : w4.ownsRow w.heap.size 71 3 u3 (fs.take k).length (imgC (fs.take k) us) := row_kept' HI.out.1.own hk4 (fun q e e' => by have := (HI.out.1.own.lt q e).2; omega)
      have hsz4 : w3.heap.size = w4.heap.size := by rw [e4]; simp [World.setCell]
      have hsz4' : w.heap.size ≤ w4.heap.size := by have := hk4.size; omega
      rw [hlen] at hown4
      have HT : Hid (Owns w4 W.heap.size (.slice x' fs[k].bytes.length y') fs[k].bytes ∧ Kept wr w4 (fun q => wr.heap.size ≤ q)) := ⟨ho4, hk4⟩
      have r0 : w4.cell? ⟨wr.heap.size, 0, none⟩ = some (.string fs[k].name) := by rw [e4, cell_of_row _ _ 0 _ _ _ (heap_setK _ hrow3)]; rfl
      have r1 : w4.cell? ⟨wr.heap.size, 1, none⟩ = some (.slice x' fs[k].bytes.length y') := by rw [e4, cell_of_row _ _ 1 _ _ _ (heap_setK _ hrow3)]; rfl
      have r2 : w4.cell? ⟨wr.heap.size, 2, none⟩ = some (.int .i64 fs[k].dur) := by rw [e4, cell_of_row _ _ 2 _ _ _ (heap_setK _ hrow3)]; rfl
      have HO4 : Hid (w4.ownsRow w.heap.size 71 3 u3 k (imgC (fs.take k) us)) := hown4
      clear hb34 ho4 hk4 hown4 ho3 hrow3 hb3
      have HE4 : Hid _ := e4
      go_upto_region 7 with fail
      rw [← HE4.out]
      clear e4
      go_wp2_with (at_builtin; refine wpList_append_own_at _ rfl _ _ 22 rfl w.heap.size 71 i0 _ 3 48 Tryz.underlying22 hi hz0 hz1 hz2 rfl (by decide) u3 k (imgC (fs.take k) us) rfl (row_kept' HO4.out ((Kept.refl w4 (fun _ => False)).alloc _) (fun _ _ h => h)) ⟨w4.heap.size, 0, none⟩ 1 1 [.string fs[k].name, .slice x' fs[k].bytes.length y', .int .i64 fs[k].dur] rfl rfl (new_cell3 w4 _ _ _ _) (one_cell3 _ _ _ _ _) (by unfold maxLen; omega) (by omega) (by show w.heap.size ≤ (World.alloc w4 _).heap.size; rw [World.size_alloc]; exact Nat.le_succ_of_le (by assumption)) ?_)
      intro v' w5 hown' hgrow _ hat
      have HR : Hid (∃ us, ImgAt w5 w.heap.size v' (fs.take (k + 1)) us ∧ Below w.heap.size w w5 ∧ (∀ u ∈ us, ∀ k, u.ownBlock = some k → v'.ownBlock ≠ some k)) := by
        have hk5 : Kept w4 w5 (fun q => u3.ownBlock = some q) := ((Kept.refl w4 (fun q => u3.ownBlock = some q)).alloc _).grown hgrow (fun q _ e => e)
        have hku : ∀ u ∈ us, ∀ q, u.ownBlock = some q → q < wr.heap.size := fun u hu q e => by
          obtain ⟨i, hi2⟩ := List.mem_iff_getElem?.1 hu
          have hil : i < (fs.take k).length := by
            have := (List.getElem?_eq_some_iff.1 hi2).1
            rw [HI.out.1.len] at this
            exact this
          exact rows_ltK (HI.out.1.bys i u _ hi2 (List.getElem?_eq_getElem hil)) e
        have hk3u : ∀ q, u3.ownBlock = some q → q < wr.heap.size := fun q e => (HI.out.1.own.lt q e).2
        have hnb : ∀ q, (Value.slice x' fs[k].bytes.length y').ownBlock = some q → W.heap.size ≤ q ∧ q < w4.heap.size := fun q e => HT.out.1.lt q e
        have hul := HI.out.1.len
        refine ⟨us ++ [.slice x' fs[k].bytes.length y'], ?_, ?_, ?_⟩
        · rw [hst.out]
          refine ⟨by rw [List.length_append, List.length_append, hul]; rfl, ?_, fun i u f hu hf => ?_⟩
          · rw [imgC_snoc _ _ hul, List.length_append, hlen]
            exact hown'
          · rw [List.getElem?_append] at hu hf
            by_cases hik : i < us.length
            · rw [if_pos hik] at hu
              rw [if_pos (by rw [← hul]; exact hik)] at hf
              have hmu := List.mem_of_getElem? hu
              exact ((HI.out.1.bys i u f hu hf).kept HT.out.2 (fun q e e' => by have := hku u hmu q e; omega)).kept hk5 (fun q e e' => HI.out.2.2.1 u hmu q e e')
            · rw [if_neg hik] at hu
              rw [if_neg (by rw [← hul]; exact hik)] at hf
              have h0 : i - us.length = 0 := by
                have := (List.getElem?_eq_some_iff.1 hu).1
                simp at this
                omega
              rw [h0] at hu
              rw [← hul, h0] at hf
              cases hu
              cases hf
              have ho5 := HT.out.1.kept hk5 (fun q e e' => by have := hnb q e; have := hk3u q e'; omega)
              exact owns_mono ho5 (by omega)
        · exact HI.out.2.1.trans (((HT.out.2.below (Nat.le_refl _) (fun q e => e)).mono hsz).trans ((hk5.below (B := w.heap.size) hsz4' (fun q e => by have h8 : w4.ownsRow w.heap.size 71 3 u3 k (imgC (fs.take k) us) := HO4.out; exact (h8.lt q e).1))))
        · intro u hu q e e'
          rcases List.mem_append.1 hu with h4 | h4
          · rcases hat with h5 | h5
            · rw [h5] at e'
              exact HI.out.2.2.1 u h4 q e e'
            · rw [h5] at e'
              have : w4.heap.size + 1 = q := by simpa using e'
              have := hku u h4 q e
              have := HT.out.2.size
              omega
          · have h6 : u = .slice x' fs[k].bytes.length y' := by simpa using h4
            rw [h6] at e
            have h7 := hnb q e
            rcases hat with h5 | h5
            · rw [h5] at e'
              have := hk3u q e'
              omega
            · rw [h5] at e'
              have : w4.heap.size + 1 = q := by simpa using e'
              omega
      clear hown' hgrow hat HO4 HT HI HF HEW
      go_wp2
      go_roundw
      case rel => exact ⟨k + 1, by omega, by go_num, HR⟩
      case measure => simp [intOf]; omega
    · obtain rfl : k = N := by omega
      have e : fs.take k = fs := List.take_of_length_le (by have := HN.out; omega)
      rw [e] at hus
      go_wp2_with fail
      go_ret
      exact ⟨_, us, rfl, hus, hbel, hap⟩
end Go.Proofs.YtbdokdhconhifaaGreatDoor
