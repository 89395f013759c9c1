/- The document's board in memory: New, All, Clear, Drop. -/
import Derived.Test.YtkcapiblicfboaaGreatDoorWaVJ
namespace Go.Proofs.YtkcapiblicfboaaGreatDoor
open Go.RowKit Go.Shelf
set_option maxRecDepth 8000
set_option linter.unusedSimpArgs false

/-- The document's board in memory. -/
structure Rb (w : World) (b : Nat) (v : Value) (l : List WaT) : Prop where
  hb : w.heap[b]? = some (.cells #[v] 82 (0, 0))
  ho : w.ownsRow 0 57 3 v l.length (waFlat l)
def FtR (b : Nat) (v : Value) (k : Nat) : Prop := k = b ∨ v.ownBlock = some k
theorem Rb.c0 {w : World} {b : Nat} {v : Value} {l : List WaT} (h : Rb w b v l) : w.cell? ⟨b, 0, none⟩ = some v := by rw [cell_of_row w b 0 _ _ _ h.hb]; rfl
theorem Rb.lt {w : World} {b : Nat} {v : Value} {l : List WaT} (h : Rb w b v l) {k : Nat} (hk : FtR b v k) : k < w.heap.size := by
  rcases hk with rfl | hk
  · exact lt_of_block h.hb
  · exact (h.ho.lt k hk).2
theorem Rb.kept {w w' : World} {S : Nat → Prop} {b : Nat} {v : Value} {l : List WaT} (h : Rb w b v l) (hk : Kept w w' S) (hn : ∀ k, FtR b v k → ¬ S k) : Rb w' b v l :=
  ⟨hk.heap h.hb (hn b (.inl rfl)), rowK h.ho hk (fun g hg => hn g (.inr hg))⟩
theorem Rb.below {w w' : World} {b : Nat} {v : Value} {l : List WaT} (h : Rb w b v l) (hB : Below w.heap.size w w') : Rb w' b v l :=
  h.kept (Below.kept hB) (fun k hf => by have := h.lt hf; omega)
/-- Its list's cell set. -/
theorem Rb.set {w : World} {b : Nat} {v v' : Value} {l2 : List WaT} (hb : w.heap[b]? = some (.cells #[v] 82 (0, 0))) (ho : w.ownsRow 0 57 3 v' l2.length (waFlat l2)) : Rb (w.setCell ⟨b, 0, none⟩ v') b v' l2 ∧ Kept w (w.setCell ⟨b, 0, none⟩ v') (fun k => k = b) := by
  have hks : Kept w (w.setCell ⟨b, 0, none⟩ v') (fun k => k = b) := (Kept.refl w _).setCell _ _ (fun _ => rfl)
  refine ⟨⟨?_, rowK ho hks (fun g hg e => ?_)⟩, hks⟩
  · rw [setCell_eq_setRow w b 0 _ _ _ _ hb, setRow_heap w b _ _ _ _ hb]; rfl
  · subst e; obtain ⟨cs, e'⟩ := rowT ho hg; rw [hb] at e'; simp at e'

theorem rNew_any (w : World) : Calls Tryz.prog 7 #[] w fun e w' => e = .returned (.pointer (some ⟨w.heap.size, 0, none⟩)) ∧ Rb w' w.heap.size (.slice none 0 0) [] ∧ Below w.heap.size w w' := by
  have HB : Hid (Rb (w.alloc (.cells #[.slice none 0 0] 82)) w.heap.size (.slice none 0 0) [] ∧ Below w.heap.size w (w.alloc (.cells #[.slice none 0 0] 82))) := ⟨⟨heap_alloc_new w _, World.ownsRow_nil _ _ _ _⟩, (Below.refl _ w).alloc (Nat.le_refl _) _⟩
  go_enter Tryz.func7, Tryz.ntmps7
  go_wp2
  all_goals (go_ret; exact ⟨rfl, HB.out⟩)

/-- One list of one's own, beside all that was there. -/
theorem row_more {w wr : World} {vs : Value} {L : List WaT} (x : WaT) (ho : wr.ownsRow w.heap.size 57 3 vs L.length (waFlat L)) (hB : Below w.heap.size w wr) (hl : L.length ≤ 2000000) :
    ∃ ao n c w3, (∀ ty, (Builtin.append_ #[64, 64] ty #[vs, .slice (some ⟨wr.heap.size, 0, none⟩) 1 1]).run Tryz.prog (wr.alloc (.cells (waCs x) 57)) = .ok (.slice ao n c) w3) ∧ w3.ownsRow w.heap.size 57 3 (.slice ao n c) (L ++ [x]).length (waFlat (L ++ [x])) ∧ Below w.heap.size w w3 ∧ Kept wr w3 (fun k => vs.ownBlock = some k) ∧ NewRow wr vs (.slice ao n c) := by
  have B3 : Below wr.heap.size wr (wr.alloc (.cells (waCs x) 57)) := (Below.refl _ wr).alloc (Nat.le_refl _) _
  have hl3 := rowK ho (Below.kept B3) (fun k hk => by have := (ho.lt k hk).2; omega)
  obtain ⟨vn, w3, hr, ho3, hk3, hnr⟩ := app_wa (x := x) hl3 (heap_alloc_new wr _) (by omega) (Nat.le_trans hB.size B3.size)
  obtain ⟨ao, n, c, rfl⟩ : ∃ a n c, vn = .slice a n c := by
    obtain ⟨a, c, e⟩ := rowS ho3
    exact ⟨a, _, c, e⟩
  have hkk : Kept wr w3 (fun k => vs.ownBlock = some k) := ((Below.kept B3).mono (fun k h1 h2 => by omega)).trans hk3 (fun _ _ h => h)
  refine ⟨ao, n, c, w3, hr, ho3, ?_, hkk, ?_⟩
  · refine ⟨hkk.os.trans hB.os, hkk.tape.trans hB.tape, hkk.output.trans hB.output, Nat.le_trans hB.size hkk.size, fun k hk' => ?_⟩
    rw [hkk.block k (Nat.lt_of_lt_of_le hk' hB.size) (fun hv => by have := (ho.lt k hv).1; omega), hB.block k hk']
  · rcases hnr with e | ⟨k, e, h⟩
    · exact .inl e
    · exact .inr ⟨k, e, by have := B3.size; omega⟩

set_option maxHeartbeats 1000000 in
theorem rAll_any {w : World} {b : Nat} {v : Value} {l : List WaT} (h : Rb w b v l) (hl : l.length ≤ 1000) :
    Calls Tryz.prog 14 #[.pointer (some ⟨b, 0, none⟩)] w fun e w' => ∃ u, e = .returned u ∧ w'.ownsRow w.heap.size 57 3 u l.length (waFlat l) ∧ Below w.heap.size w w' := by
  have HH : Hid (Rb w b v l) := h
  obtain ⟨vo, vc, rfl⟩ := rowS h.ho
  clear h
  go_enter Tryz.func14, Tryz.ntmps14
  go_wp2
  go_loopw [3, 4] (fun vs vi wr => ∃ i : Nat, i ≤ l.length ∧ vi = .int .i64 (i : Int) ∧ Hid (wr.ownsRow w.heap.size 57 3 vs (l.take i).length (waFlat (l.take i)) ∧ Below w.heap.size w wr)) (fun _ vi _ => l.length - (intOf vi).toNat)
  case atStart => exact ⟨0, by omega, rfl, World.ownsRow_nil _ _ _ _, Below.refl _ _⟩
  case round =>
    obtain ⟨i, hi, rfl, HD⟩ := hrel
    have hR := HH.out.below HD.out.2
    have c0 := hR.c0
    have hz := lt_of_block hR.hb
    by_cases hlt : i < l.length
    · have hd : decide ((i : Int) < (l.length : Int)) = true := by simp; omega
      obtain ⟨x, hx⟩ : ∃ x, l[i]? = some x := ⟨_, List.getElem?_eq_getElem hlt⟩
      obtain ⟨ao, cap, he, hcap, hc⟩ := SW_owns hR.ho
      simp only [Value.slice.injEq, true_and] at he
      obtain ⟨rfl, rfl⟩ := he
      obtain ⟨b0, off, hao, hcx⟩ := hc (fun e => by rw [e] at hlt; simp at hlt)
      obtain ⟨k0, k1, k2⟩ := hcx i x hx
      subst hao
      have hz0 : b0 < wr.heap.size := World.block_lt_of_cell? wr _ k0
      obtain ⟨so, sn, sc, w3, hr, ho3, hB3, _, _⟩ := row_more x HD.out.1 HD.out.2 (by rw [List.length_take]; omega)
      have HN : Hid (w3.ownsRow w.heap.size 57 3 (.slice so sn sc) (l.take (i + 1)).length (waFlat (l.take (i + 1))) ∧ Below w.heap.size w w3) := by
        rw [take_at hx]; exact ⟨ho3, hB3⟩
      clear HD hR ho3 hB3 hcx hc hx
      go_wp2_with (at_builtin; refine Lib.wpList_append_run_sl _ rfl _ _ 64 rfl _ _ rfl rfl (hr _) ?_)
      go_roundw
      case rel => exact ⟨i + 1, by omega, by simp, HN⟩
      case measure => simp [intOf]; omega
    · have hd : decide ((i : Int) < (l.length : Int)) = false := by simp; omega
      have HE : Hid (wr.ownsRow w.heap.size 57 3 u3 l.length (waFlat l) ∧ Below w.heap.size w wr) := by
        have := HD.out
        rw [List.take_of_length_le (by omega)] at this
        exact this
      obtain ⟨so, sc, hss⟩ := rowS HE.out.1
      subst hss
      clear HD hR
      go_wp2
      all_goals (go_ret; exact ⟨_, rfl, HE.out⟩)

theorem rClear_any {w : World} {b : Nat} {v : Value} {l : List WaT} (h : Rb w b v l) :
    Calls Tryz.prog 24 #[.pointer (some ⟨b, 0, none⟩)] w fun e w' => e = .returned v ∧ w'.ownsRow 0 57 3 v l.length (waFlat l) ∧ Rb w' b (.slice none 0 0) [] ∧ Kept w w' (fun k => k = b) := by
  have c0 := h.c0
  have f0 := frozen_of_row w b 0 _ _ h.hb
  have hz := lt_of_block h.hb
  obtain ⟨hS, hk⟩ := Rb.set (l2 := []) h.hb (World.ownsRow_nil _ _ _ _)
  have HE : Hid ((w.setCell ⟨b, 0, none⟩ (.slice none 0 0)).ownsRow 0 57 3 v l.length (waFlat l) ∧ Rb (w.setCell ⟨b, 0, none⟩ (.slice none 0 0)) b (.slice none 0 0) [] ∧ Kept w (w.setCell ⟨b, 0, none⟩ (.slice none 0 0)) (fun k => k = b)) :=
    ⟨rowK h.ho hk (fun g hg e => by subst e; obtain ⟨cs, e'⟩ := rowT h.ho hg; rw [h.hb] at e'; simp at e'), hS, hk⟩
  obtain ⟨vo, vc, rfl⟩ := rowS h.ho
  clear h hS hk
  go_enter Tryz.func24, Tryz.ntmps24
  go_wp2
  all_goals (go_ret; exact ⟨rfl, HE.out⟩)

/-- Two lists of one's own that lie apart. -/
structure TwoR (w wr : World) (vt vl : Value) (T L : List WaT) : Prop where
  t : wr.ownsRow w.heap.size 57 3 vt T.length (waFlat T)
  l : wr.ownsRow w.heap.size 57 3 vl L.length (waFlat L)
  ap : ∀ k, vt.ownBlock = some k → vl.ownBlock ≠ some k
  bel : Below w.heap.size w wr
theorem TwoR.symm {w wr : World} {vt vl : Value} {T L : List WaT} (h : TwoR w wr vt vl T L) : TwoR w wr vl vt L T := ⟨h.l, h.t, fun k h1 h2 => h.ap k h2 h1, h.bel⟩
theorem TwoR.app {w wr : World} {vt vl : Value} {T L : List WaT} (x : WaT) (h : TwoR w wr vt vl T L) (hl : T.length ≤ 2000000) :
    ∃ ao n c w3, (∀ ty, (Builtin.append_ #[64, 64] ty #[vt, .slice (some ⟨wr.heap.size, 0, none⟩) 1 1]).run Tryz.prog (wr.alloc (.cells (waCs x) 57)) = .ok (.slice ao n c) w3) ∧ TwoR w w3 (.slice ao n c) vl (T ++ [x]) L := by
  obtain ⟨ao, n, c, w3, hr, ho3, hB3, hk3, hnr⟩ := row_more x h.t h.bel hl
  refine ⟨ao, n, c, w3, hr, ⟨ho3, rowK h.l hk3 (fun g hg e => h.ap g e hg), fun k h1 h2 => ?_, hB3⟩⟩
  rcases hnr with e | ⟨k2, e, hle⟩
  · rw [e] at h1; exact h.ap k h1 h2
  · rw [e] at h1; simp at h1; have := (h.l.lt k h2).2; omega

set_option maxHeartbeats 2000000 in
theorem rDrop_any {w : World} {b : Nat} {v : Value} {l : List WaT} (c : Int) (h : Rb w b v l) (hl : l.length ≤ 1000) :
    Calls Tryz.prog 23 #[.pointer (some ⟨b, 0, none⟩), .int .i64 c] w fun e w' => ∃ u, e = .returned u ∧ w'.ownsRow w.heap.size 57 3 u (l.filter (ofC c)).length (waFlat (l.filter (ofC c))) ∧ ∃ v', Rb w' b v' (l.filter (fun x => !ofC c x)) ∧ Kept w w' (fun k => k = b) ∧ (∀ k, v'.ownBlock = some k → w.heap.size ≤ k) ∧ ∀ k, u.ownBlock = some k → v'.ownBlock ≠ some k := by
  have HH : Hid (Rb w b v l) := h
  obtain ⟨vo, vc, rfl⟩ := rowS h.ho
  clear h
  go_enter Tryz.func23, Tryz.ntmps23
  go_wp2
  go_loopw [5, 6, 7] (fun vt vl vi wr => ∃ i : Nat, i ≤ l.length ∧ vi = .int .i64 (i : Int) ∧ Hid (TwoR w wr vt vl ((l.take i).filter (ofC c)) ((l.take i).filter (fun x => !ofC c x)))) (fun _ _ vi _ => l.length - (intOf vi).toNat)
  case atStart => exact ⟨0, by omega, rfl, World.ownsRow_nil _ _ _ _, World.ownsRow_nil _ _ _ _, (fun k hk => by cases hk), Below.refl _ _⟩
  case round =>
    obtain ⟨i, hi, rfl, HD⟩ := hrel
    have hR := HH.out.below HD.out.bel
    have c0 := hR.c0
    have hz := lt_of_block hR.hb
    have hTl : ((l.take i).filter (ofC c)).length ≤ 2000000 := Nat.le_trans (List.length_filter_le _ _) (by rw [List.length_take]; omega)
    have hLl : ((l.take i).filter (fun x => !ofC c x)).length ≤ 2000000 := Nat.le_trans (List.length_filter_le _ _) (by rw [List.length_take]; omega)
    by_cases hlt : i < l.length
    · have hd : decide ((i : Int) < (l.length : Int)) = true := by simp; omega
      obtain ⟨x, hx⟩ : ∃ x, l[i]? = some x := ⟨_, List.getElem?_eq_getElem hlt⟩
      obtain ⟨ao, cap, he, hcap, hc⟩ := SW_owns hR.ho
      simp only [Value.slice.injEq, true_and] at he
      obtain ⟨rfl, rfl⟩ := he
      obtain ⟨b0, off, hao, hcx⟩ := hc (fun e => by rw [e] at hlt; simp at hlt)
      obtain ⟨k0, k1, k2⟩ := hcx i x hx
      subst hao
      have hz0 : b0 < wr.heap.size := World.block_lt_of_cell? wr _ k0
      cases hp : ofC c x
      · have hcc : (x.1 == c) = false := hp
        obtain ⟨so, sn, sc, w3, hr, hT⟩ := HD.out.symm.app x hLl
        have HN : Hid (TwoR w w3 u5 (.slice so sn sc) ((l.take (i + 1)).filter (ofC c)) ((l.take (i + 1)).filter (fun x => !ofC c x))) := by
          rw [filt_no hx hp, filt_yes (p := fun x => !ofC c x) hx (by simp [hp])]; exact hT.symm
        clear HD hR hT hcx hc hx hp hTl hLl
        go_wp2_with (at_builtin; refine Lib.wpList_append_run_sl _ rfl _ _ 64 rfl _ _ rfl rfl (hr _) ?_)
        go_roundw
        case rel => exact ⟨i + 1, by omega, by simp, HN⟩
        case measure => simp [intOf]; omega
      · have hcc : (x.1 == c) = true := hp
        obtain ⟨so, sn, sc, w3, hr, hT⟩ := HD.out.app x hTl
        have HN : Hid (TwoR w w3 (.slice so sn sc) u6 ((l.take (i + 1)).filter (ofC c)) ((l.take (i + 1)).filter (fun x => !ofC c x))) := by
          rw [filt_yes hx hp, filt_no (p := fun x => !ofC c x) hx (by simp [hp])]; exact hT
        clear HD hR hT hcx hc hx hp hTl hLl
        go_wp2_with (at_builtin; refine Lib.wpList_append_run_sl _ rfl _ _ 64 rfl _ _ rfl rfl (hr _) ?_)
        go_roundw
        case rel => exact ⟨i + 1, by omega, by simp, HN⟩
        case measure => simp [intOf]; omega
    · have hd : decide ((i : Int) < (l.length : Int)) = false := by simp; omega
      have hT := HD.out
      rw [List.take_of_length_le (by omega)] at hT
      obtain ⟨so, sn, sc, hss⟩ : ∃ a n c, u5 = .slice a n c := by
        obtain ⟨a, c, e⟩ := rowS hT.t
        exact ⟨a, _, c, e⟩
      obtain ⟨lo, ln, lc, hls⟩ : ∃ a n c, u6 = .slice a n c := by
        obtain ⟨a, c, e⟩ := rowS hT.l
        exact ⟨a, _, c, e⟩
      subst hss hls
      have f0 := frozen_of_row wr b 0 _ _ hR.hb
      obtain ⟨hS, hk⟩ := Rb.set hR.hb (row_lower hT.l (Nat.zero_le _))
      have HE : Hid ((wr.setCell ⟨b, 0, none⟩ (.slice lo ln lc)).ownsRow w.heap.size 57 3 (.slice so sn sc) (l.filter (ofC c)).length (waFlat (l.filter (ofC c))) ∧ ∃ v', Rb (wr.setCell ⟨b, 0, none⟩ (.slice lo ln lc)) b v' (l.filter (fun x => !ofC c x)) ∧ Kept w (wr.setCell ⟨b, 0, none⟩ (.slice lo ln lc)) (fun k => k = b) ∧ (∀ k, v'.ownBlock = some k → w.heap.size ≤ k) ∧ ∀ k, (Value.slice so sn sc).ownBlock = some k → v'.ownBlock ≠ some k) :=
        ⟨rowK hT.t hk (fun g hg e => by have := (hT.t.lt g hg).1; have := lt_of_block HH.out.hb; omega), _, hS, ((Below.kept hT.bel).mono (fun k h1 h2 => by omega)).trans hk (fun _ _ h => h), fun k hk => (hT.l.lt k hk).1, hT.ap⟩
      clear HD hR hT hS hk hTl hLl
      go_wp2
      all_goals (go_ret; exact ⟨_, rfl, HE.out⟩)

end Go.Proofs.YtkcapiblicfboaaGreatDoor
