/- What slices.DeleteFunc answers with the test of a board's shrink. -/
import Derived.Test.YtkcapiblicfboaaGreatDoorWaIJ
import Derived.Test.YtkcapiblicfboaaGreatDoorWaDJ
import Derived.Maps.AppendAt
import Derived.Lib.SliceRun
import Derived.Lib.SlFresh
namespace Go.Proofs.YtkcapiblicfboaaGreatDoor
open Go.RowKit Go.Shelf
set_option maxRecDepth 8000
set_option linter.unusedSimpArgs false

theorem set_take_succ {dk : List WaT} {i : Nat} (x : WaT) (hi : i < dk.length) : (dk.set i x).take (i + 1) = dk.take i ++ [x] := by
  rw [List.take_add_one, List.take_set_of_le (Nat.le_refl _), List.getElem?_set_self hi]
  rfl
theorem set_drop_far {dk : List WaT} {i j : Nat} (x : WaT) (hi : i < j) : (dk.set i x).drop j = dk.drop j := List.drop_set_of_lt hi

/-- How far DeleteFunc has come: j read, i written. -/
structure DelI (l l' dk : List WaT) (i j : Nat) : Prop where
  len : dk.length = l.length
  ij : i < j
  jn : j ≤ l.length
  front : dk.take i = (l.take j).filter (keepB l')
  back : dk.drop j = l.drop j
theorem DelI.at {l l' dk : List WaT} {i j : Nat} (h : DelI l l' dk i j) : dk[j]? = l[j]? := by
  have := congrArg (fun z => z[0]?) h.back
  simpa using this
theorem DelI.keep {l l' dk : List WaT} {i j : Nat} {x : WaT} (h : DelI l l' dk i j) (hx : l[j]? = some x) (hk : keepB l' x = true) : DelI l l' (dk.set i x) (i + 1) (j + 1) := by
  have hj : j < l.length := (List.getElem?_eq_some_iff.1 hx).1
  refine ⟨by simp [h.len], by have := h.ij; omega, by omega, ?_, ?_⟩
  · rw [set_take_succ x (by have := h.ij; have := h.len; omega), h.front, List.take_add_one, hx, List.filter_append]
    simp [hk]
  · rw [set_drop_far x (by have := h.ij; omega)]
    have := congrArg (List.drop 1) h.back
    simpa [List.drop_drop, Nat.add_comm] using this
theorem DelI.skip {l l' dk : List WaT} {i j : Nat} {x : WaT} (h : DelI l l' dk i j) (hx : l[j]? = some x) (hk : keepB l' x = false) : DelI l l' dk i (j + 1) := by
  have hj : j < l.length := (List.getElem?_eq_some_iff.1 hx).1
  refine ⟨h.len, by have := h.ij; omega, by omega, ?_, ?_⟩
  · rw [h.front, List.take_add_one, hx, List.filter_append]
    simp [hk]
  · have := congrArg (List.drop 1) h.back
    simpa [List.drop_drop, Nat.add_comm] using this

set_option maxHeartbeats 2000000 in
theorem deleteFW {w : World} {pb b m : Nat} {l' : List WaT} (h : Ask w pb b m l') (v : Value) (l : List WaT) (hv : w.ownsRow 0 57 3 v l.length (waFlat l)) (hlen : l.length ≤ 1000) (hn : v.ownBlock ≠ some pb ∧ v.ownBlock ≠ some b ∧ v.ownBlock ≠ some m) :
    Calls Tryz.prog 80 #[v, .func (.func 81) #[] #[.pointer (some ⟨pb, 0, none⟩)]] w fun e w' => ∃ v', e = .returned v' ∧ w'.ownsRow 0 57 3 v' (l.filter (keepB l')).length (waFlat (l.filter (keepB l'))) ∧ v'.ownBlock = v.ownBlock ∧ Kept w w' (fun k => v.ownBlock = some k) := by
  have HI : Hid _ := indexFW h v l (SW_owns hv) (by omega)
  rcases hv.2 with ⟨rfl, h0⟩ | ⟨g, cap, cur, rfl, _⟩
  · have hnil : l = [] := List.length_eq_zero_iff.1 h0
    subst hnil
    have HV : Hid (w.ownsRow 0 57 3 (.slice none 0 0) 0 []) := hv
    clear h hv h0 hn hlen
    go_enter Tryz.func80, Tryz.ntmps80
    go_wp2_with fail
    refine Calls.mono HI.out ?_
    rintro e w1 ⟨⟨rfl, _⟩ | ⟨i, hi, _⟩, hB⟩
    · have HB : Hid (Below w.heap.size w w1) := hB
      clear hB HI
      go_wp2
      all_goals (go_ret; exact ⟨_, rfl, World.ownsRow_nil _ _ _ _, rfl, (Below.kept HB.out).mono (fun k h1 h2 => by omega)⟩)
    · exact absurd hi (by simp)
  · have HV : Hid (w.ownsRow 0 57 3 (.slice (some ⟨g, 0, none⟩) l.length cap) l.length (waFlat l) ∧ Ask w pb b m l' ∧ g ≠ pb ∧ g ≠ b ∧ g ≠ m) := ⟨hv, h, fun e => hn.1 (by rw [← e]; rfl), fun e => hn.2.1 (by rw [← e]; rfl), fun e => hn.2.2 (by rw [← e]; rfl)⟩
    clear h hv hn
    go_enter Tryz.func80, Tryz.ntmps80
    go_wp2_with fail
    refine Calls.mono HI.out ?_
    rintro e w1 ⟨⟨rfl, hf⟩ | ⟨i0, hi0, rfl, hf0, hf1⟩, hB⟩
    · have HB : Hid (Below w.heap.size w w1 ∧ l.filter (keepB l') = l) := ⟨hB, hf⟩
      clear hB HI hf
      go_wp2
      all_goals (go_ret; refine ⟨_, rfl, ?_, rfl, (Below.kept HB.out.1).mono (fun k h1 h2 => by omega)⟩; rw [HB.out.2]; exact rowK HV.out.1 (Below.kept HB.out.1) (fun k hk => by have := (HV.out.1.lt k hk).2; omega))
    · have HS : Hid (DelI l l' l i0 (i0 + 1) ∧ w1.ownsRow 0 57 3 (.slice (some ⟨g, 0, none⟩) l.length cap) l.length (waFlat l) ∧ Kept w w1 (fun k => k = g)) := by
        refine ⟨⟨rfl, by omega, hi0, hf1.symm, rfl⟩, rowK HV.out.1 (Below.kept hB) (fun k hk => by have := (HV.out.1.lt k hk).2; omega), (Below.kept hB).mono (fun k h1 h2 => by omega)⟩
      have hne1 : ((i0 : Int) == -1) = false := beq_eq_false_iff_ne.2 (by omega)
      clear HI hf0 hf1 hB
      go_wp2_with fail
      go_loopw [5, 6] (fun vi vj wr => ∃ (i j : Nat) (dk : List WaT), vi = .int .i64 (i : Int) ∧ vj = .int .i64 (j : Int) ∧ j ≤ l.length ∧ i < j ∧ Hid (DelI l l' dk i j ∧ wr.ownsRow 0 57 3 (.slice (some ⟨g, 0, none⟩) l.length cap) l.length (waFlat dk) ∧ Kept w wr (fun k => k = g))) (fun _ vj _ => l.length - (intOf vj).toNat)
      case atStart => exact ⟨i0, i0 + 1, l, rfl, by simp, by omega, by omega, HS⟩
      case round =>
        obtain ⟨i, j, dk, rfl, rfl, hj, hij, HD⟩ := hrel
        clear HS hne1 hi0
        by_cases hlt : j < l.length
        · have hd : decide ((j : Int) < (l.length : Int)) = true := by simp; omega
          obtain ⟨x, hx⟩ : ∃ x, l[j]? = some x := ⟨_, List.getElem?_eq_getElem hlt⟩
          obtain ⟨hcs, hfr, hgl, hcp⟩ := row_cells HD.out.2.1 HD.out.1.len
          obtain ⟨k0, k1, k2⟩ := hcs j x (by rw [HD.out.1.at]; exact hx)
          have hA := HV.out.2.1.kept HD.out.2.2 (Ne.symm HV.out.2.2.1) (Ne.symm HV.out.2.2.2.1) (Ne.symm HV.out.2.2.2.2)
          have B1 : Below wr.heap.size wr (wr.alloc (.cells (waCs x) 57)) := (Below.refl _ _).alloc (Nat.le_refl _) _
          have hbx : (wr.alloc (.cells (waCs x) 57)).heap[wr.heap.size]? = some (.cells (waCs x) 57 (0, 0)) := heap_alloc_new wr _
          have HF : Hid (Calls Tryz.prog 81 #[.agg (waCs x), .pointer (some ⟨pb, 0, none⟩)] (wr.alloc (.cells (waCs x) 57)) fun e w' => e = .returned (.bool (!keepB l' x)) ∧ Hid (Below wr.heap.size wr w' ∧ w'.heap[wr.heap.size]? = some (.cells (waCs x) 57 (0, 0)))) :=
            (shrink1_any x (hA.below B1)).mono (fun e w' hh => ⟨hh.1, B1.trans (hh.2.mono B1.size), box_later hbx hh.2⟩)
          have HX : Hid (l[j]? = some x) := hx
          clear hcs hfr hx hA B1 hbx
          go_wp2_with fail
          go_at_call 81
          refine (HF.out).mono ?_
          rintro e w2 ⟨rfl, HB2⟩
          clear HF k0 k1 k2
          cases hk : keepB l' x
          · have HN : Hid (DelI l l' dk i (j + 1) ∧ w2.ownsRow 0 57 3 (.slice (some ⟨g, 0, none⟩) l.length cap) l.length (waFlat dk) ∧ Kept w w2 (fun k => k = g)) :=
              ⟨HD.out.1.skip HX.out hk, rowK HD.out.2.1 (Below.kept HB2.out.1) (fun k hk => by have := (HD.out.2.1.lt k hk).2; omega), HD.out.2.2.trans (Below.kept HB2.out.1) (fun k h1 h2 => by have := HD.out.2.2.size; omega)⟩
            clear HD HB2
            go_wp2
            go_roundw
            case rel => exact ⟨i, j + 1, dk, rfl, by simp, by omega, by omega, HN⟩
            case measure => simp [intOf]; omega
          · have hr2 := rowK HD.out.2.1 (Below.kept HB2.out.1) (fun k hk => by have := (HD.out.2.1.lt k hk).2; omega)
            obtain ⟨hcs, hfr, hgl2, _⟩ := row_cells hr2 HD.out.1.len
            obtain ⟨y, hy⟩ : ∃ y, dk[i]? = some y := ⟨_, List.getElem?_eq_getElem (by rw [HD.out.1.len]; omega)⟩
            obtain ⟨y0, y1, y2⟩ := hcs i y hy
            have f0 := hfr (i * 3)
            have f1 := hfr (i * 3 + 1)
            have f2 := hfr (i * 3 + 2)
            obtain ⟨hp1, hp2⟩ := row_put (i := i) x hr2 HD.out.1.len (by omega)
            have d0 := cell_of_row w2 wr.heap.size 0 _ _ _ HB2.out.2
            have d1 := cell_of_row w2 wr.heap.size 1 _ _ _ HB2.out.2
            have d2 := cell_of_row w2 wr.heap.size 2 _ _ _ HB2.out.2
            have hz := lt_of_block HB2.out.2
            have HN : Hid (DelI l l' (dk.set i x) (i + 1) (j + 1) ∧ (((w2.setCell ⟨g, i * 3, none⟩ (.int .i64 x.1)).setCell ⟨g, i * 3 + 1, none⟩ (.int .i8 x.2.1)).setCell ⟨g, i * 3 + 2, none⟩ (.string x.2.2)).ownsRow 0 57 3 (.slice (some ⟨g, 0, none⟩) l.length cap) l.length (waFlat (dk.set i x)) ∧ Kept w (((w2.setCell ⟨g, i * 3, none⟩ (.int .i64 x.1)).setCell ⟨g, i * 3 + 1, none⟩ (.int .i8 x.2.1)).setCell ⟨g, i * 3 + 2, none⟩ (.string x.2.2)) (fun k => k = g)) :=
              ⟨HD.out.1.keep HX.out hk, hp1, (HD.out.2.2.trans (Below.kept HB2.out.1) (fun k h1 h2 => by have := HD.out.2.2.size; omega)).trans hp2 (fun _ _ h => h)⟩
            clear HD HB2 hp1 hp2 hcs hfr hr2 hy
            have hil : decide ((i : Int) < (l.length : Int)) = true := by simp; omega
            go_wp2
            go_roundw
            case rel => exact ⟨i + 1, j + 1, dk.set i x, by simp, by simp, by omega, by omega, HN⟩
            case measure => simp [intOf]; omega
        · have hd : decide ((j : Int) < (l.length : Int)) = false := by simp; omega
          obtain rfl : j = l.length := by omega
          obtain ⟨w', hcl, ho', hk'⟩ := row_clear (i := i) 0 (cap - i) HD.out.2.1 HD.out.1.len hij
          have HE : Hid (w'.ownsRow 0 57 3 (.slice (some ⟨g, 0, none⟩) i cap) (l.filter (keepB l')).length (waFlat (l.filter (keepB l'))) ∧ Kept w w' (fun k => some g = some k)) := by
            have hf := HD.out.1.front
            rw [List.take_length] at hf
            have hli : (l.filter (keepB l')).length = i := by rw [← hf, List.length_take, HD.out.1.len]; omega
            rw [hf] at ho'
            rw [hli]
            exact ⟨ho', (HD.out.2.2.trans hk' (fun _ _ h => h)).mono (fun k _ e => by rw [e])⟩
          have hcp := (row_cells HD.out.2.1 HD.out.1.len).2.2.2
          clear HD ho' hk'
          go_wp2
          all_goals (go_ret; exact ⟨_, rfl, HE.out.1, rfl, HE.out.2⟩)

end Go.Proofs.YtkcapiblicfboaaGreatDoor

/- What a board's All answers. -/
namespace Go.Proofs.YtkcapiblicfboaaGreatDoor
open Go.RowKit Go.Shelf
set_option maxRecDepth 8000

theorem sliceNil (ao : Option Addr) (n c : Nat) (w : World) : (binOp .eql 64 (.slice ao n c) (.slice none 0 0)).run Tryz.prog w = .ok (.bool ao.isNone) w := by
  cases ao <;> kernel_rfl

set_option maxHeartbeats 1000000 in
theorem clone_any {w : World} {v : Value} {l : List WaT} (ho : w.ownsRow 0 57 3 v l.length (waFlat l)) (hl : l.length ≤ 2000000000) :
    Calls Tryz.prog 27 #[v] w fun e w' => ∃ u, e = .returned u ∧ w'.ownsRow w.heap.size 57 3 u l.length (waFlat l) ∧ Below w.heap.size w w' := by
  have hn : ∀ ao n c, (binOp .eql 64 (.slice ao n c) (.slice none 0 0)).run Tryz.prog w = .ok (.bool ao.isNone) w := fun ao n c => sliceNil ao n c w
  obtain ⟨hx, ⟨rfl, h0⟩ | ⟨g, cap, cur, rfl, a2, a3, a4, a5, a6, a7⟩⟩ := ho
  · have hnil : l = [] := List.length_eq_zero_iff.1 h0
    subst hnil
    clear hx h0
    have hn0 := hn none 0 0
    clear hn
    go_enter Tryz.func27, Tryz.ntmps27
    go_wp2
    all_goals (go_ret; exact ⟨_, rfl, World.ownsRow_nil _ _ _ _, Below.refl _ _⟩)
  · have hn0 := hn (some ⟨g, 0, none⟩) l.length cap
    clear hn
    obtain ⟨i, hi, hz, hs, hby⟩ := infoX Tryz.infoWa
    have hB : Below w.heap.size w (w.alloc (.cells #[] 57)) := (Below.refl _ w).alloc (Nat.le_refl _) _
    have hown : (w.alloc (.cells #[] 57)).ownsRow w.heap.size 57 3 (.slice (some ⟨w.heap.size, 0, none⟩) 0 0) 0 [] := ⟨rfl, .inr ⟨w.heap.size, 0, #[], rfl, Nat.le_refl _, heap_alloc_new w _, Nat.le_refl _, Nat.zero_le _, rfl, rfl⟩⟩
    have hnews : ∀ j u, (waFlat l)[j]? = some u → (w.alloc (.cells #[] 57)).cell? ((⟨g, 0, none⟩ : Addr).add j) = some u := fun j u hj => by
      have a3' := (hB.block _ (lt_of_block a3)).trans a3
      rw [Addr.add_lit, Nat.zero_add, cell_of_row _ g j _ _ _ a3', ← Array.getElem?_toList]
      rw [← a7, List.getElem?_take] at hj
      split at hj
      · exact hj
      · cases hj
    obtain ⟨v', w', hr, h2, h3, h4, h5⟩ := run_append_own_at (P := Tryz.prog) (w.alloc (.cells #[] 57)) w.heap.size 64 64 57 i _ 3 32 Tryz.underlying64 hi hz hs hby rfl (by decide) (.slice (some ⟨w.heap.size, 0, none⟩) 0 0) 0 [] hown ⟨g, 0, none⟩ l.length cap (waFlat l) hx hnews (waFlat_cell l) (by unfold maxLen; omega) (by omega) hB.size
    have HR : Hid (w'.ownsRow w.heap.size 57 3 v' l.length (waFlat l) ∧ Below w.heap.size w w') := by
      refine ⟨?_, ⟨h3.os, h3.tape, h3.output, Nat.le_trans hB.size h3.size, fun k hk => ?_⟩⟩
      · rw [Nat.zero_add] at h2
        exact h2
      · rw [h3.block k (Nat.lt_of_lt_of_le hk hB.size) (fun e => by simp [Value.ownBlock] at e; omega)]
        exact hB.block k hk
    clear h2 h3 h4 h5 hnews hown hB hi hz hs hby a2 a3 a4 a5 a6 a7 hx
    go_enter Tryz.func27, Tryz.ntmps27
    go_wp2_with (at_builtin; refine Lib.wpList_append_run_sl _ rfl _ _ 64 rfl _ _ rfl rfl hr ?_)
    go_ret
    exact ⟨_, rfl, HR.out⟩

theorem all_any {w : World} {b m : Nat} {v : Value} {l l' : List WaT} (h : Bo w b m v l l') (hl : l.length ≤ 2000000000) :
    Calls Tryz.prog 13 #[.pointer (some ⟨b, 0, none⟩)] w fun e w' => ∃ u, e = .returned u ∧ w'.ownsRow w.heap.size 57 3 u l.length (waFlat l) ∧ Below w.heap.size w w' := by
  have HN : Hid _ := isNone_no h
  have HC : Hid _ := clone_any h.ho hl
  have c0 := h.c0
  obtain ⟨vo, vc, rfl⟩ := rowS h.ho
  have hz := lt_of_block h.hb
  clear h
  go_enter Tryz.func13, Tryz.ntmps13
  go_wp2_with fail
  refine Calls.mono HN.out ?_
  rintro e w1 ⟨rfl, rfl⟩
  go_wp2_with fail
  go_at_call 27
  refine Calls.mono HC.out ?_
  rintro e w2 ⟨u, rfl, HO, HB⟩
  clear HN HC
  obtain ⟨uo, uc, rfl⟩ := rowS HO
  have HR : Hid _ := And.intro HO HB
  clear HO HB
  go_wp2
  all_goals (go_ret; exact ⟨_, rfl, HR.out⟩)

end Go.Proofs.YtkcapiblicfboaaGreatDoor
