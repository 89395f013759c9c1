/- does and wants of the statements of layer 18: a step of the program's board, and of the document's. -/
import Derived.Test.YtkcapiblicfboaaGreatDoorWbBJ
import Derived.Test.YtkcapiblicfboaaGreatDoorPaGJ
namespace Go.Proofs.YtkcapiblicfboaaGreatDoor
open Go.RowKit Go.Shelf
set_option maxRecDepth 8000
set_option linter.unusedSimpArgs false

/-- What a step tells, and the list behind it. -/
def stE (s : StT) (l : List WaT) : Int := if s.what = 0 then addE s.wa l else 0
def stF (s : StT) (l : List WaT) : List WaT := if s.what = 1 then l.filter (mB s.ch) else []
def stW (s : StT) (l : List WaT) : List WaT := if s.what = 0 then [] else if s.what = 1 then [] else if s.what = 2 then l.filter (ofC s.wa.1) else l
def stL (s : StT) (l : List WaT) : List WaT := if s.what = 0 then addL s.wa l else if s.what = 1 then l.filter (sB s.ch) else if s.what = 2 then l.filter (fun x => !ofC s.wa.1 x) else if s.what = 3 then [] else l

theorem add_any {w : World} {b m : Nat} {v : Value} {l : List WaT} (x : WaT) (h : Bo w b m v l l) (hs : x.2.2.size ≤ 4294967295) :
    Calls Tryz.prog 17 #[.pointer (some ⟨b, 0, none⟩), .agg (waCs x)] w fun e w' => e = .returned (.int .i64 (addE x l)) ∧ ∃ v', Bo w' b m v' (addL x l) (addL x l) ∧ Kept w w' (Ft b m v) ∧ NewRow w v v' := by
  cases hok : waOk x
  · have e1 : addE x l = 1 := by unfold addE; rw [hok]; rfl
    have e2 : addL x l = l := by unfold addL; rw [hok]; rfl
    rw [e1, e2]
    exact (add_no x h (by omega) hok).mono (fun e w' hh => ⟨hh.1, v, h.below hh.2, (Below.kept hh.2).mono (fun k h1 h2 => by omega), .inl rfl⟩)
  · by_cases hm : x ∈ l
    · have e1 : addE x l = 0 := by unfold addE; rw [hok, keepB_yes hm]; rfl
      have e2 : addL x l = l := by unfold addL; rw [hok, keepB_yes hm]; rfl
      rw [e1, e2]
      exact (add_old x h (by omega) hok hm).mono (fun e w' hh => ⟨hh.1, v, h.below hh.2, (Below.kept hh.2).mono (fun k h1 h2 => by omega), .inl rfl⟩)
    · by_cases h64 : 64 ≤ l.length
      · have e1 : addE x l = 180 := by unfold addE; rw [hok, keepB_no hm, if_pos rfl, if_neg (by simp), if_pos h64]
        have e2 : addL x l = l := by unfold addL; rw [hok, keepB_no hm, if_pos rfl, if_neg (by simp), if_pos h64]
        rw [e1, e2]
        exact (add_full x h (by omega) hok hm h64).mono (fun e w' hh => ⟨hh.1, v, h.below hh.2, (Below.kept hh.2).mono (fun k h1 h2 => by omega), .inl rfl⟩)
      · have e1 : addE x l = 0 := by unfold addE; rw [hok, keepB_no hm, if_pos rfl, if_neg (by simp), if_neg h64]
        have e2 : addL x l = l ++ [x] := by unfold addL; rw [hok, keepB_no hm, if_pos rfl, if_neg (by simp), if_neg h64]
        rw [e1, e2]
        exact add_new x h (by omega) hok hm (by omega)

theorem Wats.step {l : List WaT} (h : Wats l) (s : StT) (hs : s.few) : Wats (stL s l) := by
  unfold stL
  split
  · unfold addL
    cases hok : waOk s.wa
    · exact h
    · by_cases hm : s.wa ∈ l
      · rw [keepB_yes hm]; exact h
      · rw [keepB_no hm]
        by_cases h64 : 64 ≤ l.length
        · simp only [if_pos, h64]; exact h
        · simp only [if_neg h64]
          exact h.add hm (by omega) hok (by have := hs.1; omega)
  · split
    · exact h.filter _
    · split
      · exact h.filter _
      · split
        · exact Wats.nil
        · exact h

theorem told_size : (Tryz.prog.info? 66).map (·.size) = some 3 := by kernel_rfl
theorem told_ret {R : Ending → World → Prop} {f : Func} (hres : f.results = #[.cell 4 66]) {a : Act} {w1 : World} {b : Nat} {d0 d1 d2 : Value} (c0 c1 c2 : Value) (hbox : w1.heap[b]? = some (.cells #[d0, d1, d2] 66 (0, 0)))
    (h4 : a.tmps.getD 4 undef = .pointer (some ⟨b, 0, none⟩)) (hd : a.defers = [])
    (hR : R (.returned (.agg #[c0, c1, c2])) (((w1.setCell ⟨b, 0, none⟩ c0).setCell ⟨b, 1, none⟩ c1).setCell ⟨b, 2, none⟩ c2)) :
    bodyPost Tryz.prog f R .ret a (((w1.setCell ⟨b, 0, none⟩ c0).setCell ⟨b, 1, none⟩ c1).setCell ⟨b, 2, none⟩ c2) := by
  have hrow := heap_set1 (i := 2) c2 (heap_set1 (i := 1) c1 (heap_set1 (i := 0) c0 hbox))
  have e : ((#[d0, d1, d2].setIfInBounds 0 c0).setIfInBounds 1 c1).setIfInBounds 2 c2 = #[c0, c1, c2] := by simp
  rw [e] at hrow
  refine bodyPost_ret (v := .agg #[c0, c1, c2]) ?_ hd hR
  exact results_cell_row hres a.tmps _ b _ _ _ _ h4 hrow Tryz.underlying66 rfl told_size

theorem told_kept (w : World) (b : Nat) (c0 c1 c2 : Value) : Kept w (((w.setCell ⟨b, 0, none⟩ c0).setCell ⟨b, 1, none⟩ c1).setCell ⟨b, 2, none⟩ c2) (fun k => k = b) := ((kept_set _ _ _ _).trans (kept_set _ _ _ _) (fun _ _ h => h)).trans (kept_set _ _ _ _) (fun _ _ h => h)

abbrev stAgg (s : StT) : Value := .agg #[.int .i64 s.place, .int .i64 s.what, .int .i64 s.wa.1, .int .i8 s.wa.2.1, .string s.wa.2.2, .int .i8 s.ch.1, .string s.ch.2]
abbrev stBoxC (s : StT) : Obj := .cells #[.int .i64 s.place, .int .i64 s.what, .int .i64 s.wa.1, .int .i8 s.wa.2.1, .string s.wa.2.2, .int .i8 s.ch.1, .string s.ch.2] 61 (0, 0)
abbrev zeroTold : Obj := .cells #[.int .i64 0, .slice none 0 0, .slice none 0 0] 66 (0, 0)

set_option maxHeartbeats 4000000 in
theorem does_any {w : World} {b m : Nat} {v : Value} {l : List WaT} (s : StT) (h : Bo w b m v l l) (hw : Wats l) (hs : s.few) (hk : 0 ≤ s.what ∧ s.what ≤ 4) :
    Calls Tryz.prog 8 #[.pointer (some ⟨b, 0, none⟩), stAgg s] w fun e w' => ∃ uf uw, e = .returned (.agg #[.int .i64 (stE s l), uf, uw]) ∧ w'.ownsRow w.heap.size 77 5 uf (stF s l).length (fiFlat s.ch (stF s l)) ∧ w'.ownsRow w.heap.size 57 3 uw (stW s l).length (waFlat (stW s l)) ∧ ∃ v', Bo w' b m v' (stL s l) (stL s l) ∧ Kept w w' (Ft b m v) ∧ NewRow w v v' ∧ ∀ k, uw.ownBlock = some k → v'.ownBlock ≠ some k := by
  have hl := hw.le
  have B0 : Below w.heap.size w ((w.alloc (stBoxC s)).alloc zeroTold) := ((Below.refl _ w).alloc (Nat.le_refl _) _).alloc (by simp) _
  have n0 : ((w.alloc (stBoxC s)).alloc zeroTold).heap[w.heap.size]? = some (stBoxC s) := by
    rw [Below.heap_alloc _ _ _ (by simp)]; exact heap_alloc_new _ _
  have n1 : ((w.alloc (stBoxC s)).alloc zeroTold).heap[w.heap.size + 1]? = some zeroTold := by
    have := heap_alloc_new (w.alloc (stBoxC s)) zeroTold; rwa [World.size_alloc] at this
  have HV : Hid (Below w.heap.size w ((w.alloc (stBoxC s)).alloc zeroTold) ∧ ((w.alloc (stBoxC s)).alloc zeroTold).heap[w.heap.size + 1]? = some zeroTold ∧ Bo ((w.alloc (stBoxC s)).alloc zeroTold) b m v l l ∧ Wats l ∧ s.few ∧ Bo w b m v l l) := ⟨B0, n1, h.below B0, hw, hs, h⟩
  have d1 := cell_of_row _ w.heap.size 1 _ _ _ n0
  have d2 := cell_of_row _ w.heap.size 2 _ _ _ n0
  have d3 := cell_of_row _ w.heap.size 3 _ _ _ n0
  have d4 := cell_of_row _ w.heap.size 4 _ _ _ n0
  have d5 := cell_of_row _ w.heap.size 5 _ _ _ n0
  have d6 := cell_of_row _ w.heap.size 6 _ _ _ n0
  have z0 := lt_of_block n0
  have z1 := lt_of_block n1
  clear h hw hs B0 n0 n1
  rcases (show s.what = 0 ∨ s.what = 1 ∨ s.what = 2 ∨ s.what = 3 ∨ s.what = 4 by omega) with hq | hq | hq | hq | hq
  · have hE : stE s l = addE s.wa l := by simp [stE, hq]
    have hF : stF s l = ([] : List WaT) := by simp [stF, hq]
    have hW : stW s l = ([] : List WaT) := by simp [stW, hq]
    have hL : stL s l = addL s.wa l := by simp [stL, hq]
    rw [hE, hF, hW, hL]
    clear hE hF hW hL hk
    have e0 : (s.what == 0) = true := by simp [hq]
    have e1 : (s.what == 1) = false := by simp [hq]
    have e2 : (s.what == 2) = false := by simp [hq]
    have e3 : (s.what == 3) = false := by simp [hq]
    clear hq
    go_enter Tryz.func8, Tryz.ntmps8
    go_wp2_with fail
    go_at_call 17
    generalize (w.alloc (stBoxC s)).alloc zeroTold = V at *
    refine Calls.mono (add_any s.wa HV.out.2.2.1 (by have := HV.out.2.2.2.2.1.1; omega)) ?_
    rintro e w1 ⟨rfl, v', hb', hk', hn'⟩
    clear d1 d2 d3 d4 d5 d6 z0
    have hb1 : w1.heap[w.heap.size + 1]? = some zeroTold := hk'.heap HV.out.2.1 (fun hf => by have := HV.out.2.2.2.2.2.lt hf; omega)
    have o0 := cell_of_row _ (w.heap.size + 1) 0 _ _ _ hb1
    have o1 := cell_of_row _ (w.heap.size + 1) 1 _ _ _ hb1
    have o2 := cell_of_row _ (w.heap.size + 1) 2 _ _ _ hb1
    have p0 := frozen_of_row _ (w.heap.size + 1) 0 _ _ hb1
    have p1 := frozen_of_row _ (w.heap.size + 1) 1 _ _ hb1
    have p2 := frozen_of_row _ (w.heap.size + 1) 2 _ _ hb1
    have z2 := lt_of_block hb1
    have HE : Hid ((((w1.setCell ⟨w.heap.size + 1, 0, none⟩ (.int .i64 (addE s.wa l))).setCell ⟨w.heap.size + 1, 1, none⟩ (.slice none 0 0)).setCell ⟨w.heap.size + 1, 2, none⟩ (.slice none 0 0)).ownsRow w.heap.size 77 5 (Value.slice none 0 0) (([] : List WaT)).length (fiFlat s.ch (([] : List WaT))) ∧ (((w1.setCell ⟨w.heap.size + 1, 0, none⟩ (.int .i64 (addE s.wa l))).setCell ⟨w.heap.size + 1, 1, none⟩ (.slice none 0 0)).setCell ⟨w.heap.size + 1, 2, none⟩ (.slice none 0 0)).ownsRow w.heap.size 57 3 (Value.slice none 0 0) (([] : List WaT)).length (waFlat (([] : List WaT))) ∧ ∃ v', Bo (((w1.setCell ⟨w.heap.size + 1, 0, none⟩ (.int .i64 (addE s.wa l))).setCell ⟨w.heap.size + 1, 1, none⟩ (.slice none 0 0)).setCell ⟨w.heap.size + 1, 2, none⟩ (.slice none 0 0)) b m v' (addL s.wa l) (addL s.wa l) ∧ Kept w (((w1.setCell ⟨w.heap.size + 1, 0, none⟩ (.int .i64 (addE s.wa l))).setCell ⟨w.heap.size + 1, 1, none⟩ (.slice none 0 0)).setCell ⟨w.heap.size + 1, 2, none⟩ (.slice none 0 0)) (Ft b m v) ∧ NewRow w v v' ∧ ∀ k, (Value.slice none 0 0).ownBlock = some k → v'.ownBlock ≠ some k) := by
      have hkt := told_kept w1 (w.heap.size + 1) (.int .i64 (addE s.wa l)) (.slice none 0 0) (.slice none 0 0)
      have hsz := HV.out.1.size
      have hz1 : w.heap.size + 1 < V.heap.size := lt_of_block HV.out.2.1
      have hb3 : Bo (((w1.setCell ⟨w.heap.size + 1, 0, none⟩ (.int .i64 (addE s.wa l))).setCell ⟨w.heap.size + 1, 1, none⟩ (.slice none 0 0)).setCell ⟨w.heap.size + 1, 2, none⟩ (.slice none 0 0)) b m v' (addL s.wa l) (addL s.wa l) := hb'.kept hkt (fun k hf e => by
        subst e
        exact hb'.notBox hb1 (by decide) (by decide) hf)
      have hk3 : Kept w (((w1.setCell ⟨w.heap.size + 1, 0, none⟩ (.int .i64 (addE s.wa l))).setCell ⟨w.heap.size + 1, 1, none⟩ (.slice none 0 0)).setCell ⟨w.heap.size + 1, 2, none⟩ (.slice none 0 0)) (Ft b m v) := (((Below.kept HV.out.1).mono (fun k h1 h2 => by omega)).trans hk' (fun _ _ h => h)).trans hkt (fun k h1 e => by omega)
      refine ⟨World.ownsRow_nil _ _ _ _, World.ownsRow_nil _ _ _ _, v', hb3, hk3, ?_, ?_⟩
      · exact (show _ ∨ _ from hn').elim .inl (fun ⟨k2, e, h2⟩ => .inr ⟨k2, e, by omega⟩)
      · exact fun k h1 => by cases h1
    clear hb' hk' hn'
    go_wp2
    all_goals (refine told_ret Tryz.results8 _ _ _ hb1 rfl rfl ?_; exact ⟨_, _, rfl, HE.out⟩)
  · have hE : stE s l = 0 := by simp [stE, hq]
    have hF : stF s l = l.filter (mB s.ch) := by simp [stF, hq]
    have hW : stW s l = ([] : List WaT) := by simp [stW, hq]
    have hL : stL s l = l.filter (sB s.ch) := by simp [stL, hq]
    rw [hE, hF, hW, hL]
    clear hE hF hW hL hk
    have e0 : (s.what == 0) = false := by simp [hq]
    have e1 : (s.what == 1) = true := by simp [hq]
    have e2 : (s.what == 2) = false := by simp [hq]
    have e3 : (s.what == 3) = false := by simp [hq]
    clear hq
    go_enter Tryz.func8, Tryz.ntmps8
    go_wp2_with fail
    go_at_call 18
    generalize (w.alloc (stBoxC s)).alloc zeroTold = V at *
    refine Calls.mono (fire_any s.ch HV.out.2.2.1 HV.out.2.2.2.1 (by have := HV.out.2.2.2.2.1.2; omega)) ?_
    rintro e w1 ⟨u, rfl, hu, v', hb', hk', hn'⟩
    clear d1 d2 d3 d4 d5 d6 z0
    have hb1 : w1.heap[w.heap.size + 1]? = some zeroTold := hk'.heap HV.out.2.1 (fun hf => by have := HV.out.2.2.2.2.2.lt hf; omega)
    have o0 := cell_of_row _ (w.heap.size + 1) 0 _ _ _ hb1
    have o1 := cell_of_row _ (w.heap.size + 1) 1 _ _ _ hb1
    have o2 := cell_of_row _ (w.heap.size + 1) 2 _ _ _ hb1
    have p0 := frozen_of_row _ (w.heap.size + 1) 0 _ _ hb1
    have p1 := frozen_of_row _ (w.heap.size + 1) 1 _ _ hb1
    have p2 := frozen_of_row _ (w.heap.size + 1) 2 _ _ hb1
    have z2 := lt_of_block hb1
    obtain ⟨ao, an, ac, hau⟩ : ∃ a n c, u = .slice a n c := by
      obtain ⟨a, c, e⟩ := rowS hu
      exact ⟨a, _, c, e⟩
    have HE : Hid ((((w1.setCell ⟨w.heap.size + 1, 0, none⟩ (.int .i64 0)).setCell ⟨w.heap.size + 1, 1, none⟩ (.slice ao an ac)).setCell ⟨w.heap.size + 1, 2, none⟩ (.slice none 0 0)).ownsRow w.heap.size 77 5 (Value.slice ao an ac) (l.filter (mB s.ch)).length (fiFlat s.ch (l.filter (mB s.ch))) ∧ (((w1.setCell ⟨w.heap.size + 1, 0, none⟩ (.int .i64 0)).setCell ⟨w.heap.size + 1, 1, none⟩ (.slice ao an ac)).setCell ⟨w.heap.size + 1, 2, none⟩ (.slice none 0 0)).ownsRow w.heap.size 57 3 (Value.slice none 0 0) (([] : List WaT)).length (waFlat (([] : List WaT))) ∧ ∃ v', Bo (((w1.setCell ⟨w.heap.size + 1, 0, none⟩ (.int .i64 0)).setCell ⟨w.heap.size + 1, 1, none⟩ (.slice ao an ac)).setCell ⟨w.heap.size + 1, 2, none⟩ (.slice none 0 0)) b m v' (l.filter (sB s.ch)) (l.filter (sB s.ch)) ∧ Kept w (((w1.setCell ⟨w.heap.size + 1, 0, none⟩ (.int .i64 0)).setCell ⟨w.heap.size + 1, 1, none⟩ (.slice ao an ac)).setCell ⟨w.heap.size + 1, 2, none⟩ (.slice none 0 0)) (Ft b m v) ∧ NewRow w v v' ∧ ∀ k, (Value.slice none 0 0).ownBlock = some k → v'.ownBlock ≠ some k) := by
      have hkt := told_kept w1 (w.heap.size + 1) (.int .i64 0) (.slice ao an ac) (.slice none 0 0)
      have hsz := HV.out.1.size
      have hz1 : w.heap.size + 1 < V.heap.size := lt_of_block HV.out.2.1
      rw [hau] at hu
      have hu3 := rowK hu hkt (fun g hg e => by subst e; obtain ⟨cs, e'⟩ := rowT hu hg; rw [hb1] at e'; simp at e')
      have hb3 : Bo (((w1.setCell ⟨w.heap.size + 1, 0, none⟩ (.int .i64 0)).setCell ⟨w.heap.size + 1, 1, none⟩ (.slice ao an ac)).setCell ⟨w.heap.size + 1, 2, none⟩ (.slice none 0 0)) b m v' (l.filter (sB s.ch)) (l.filter (sB s.ch)) := hb'.kept hkt (fun k hf e => by
        subst e
        exact hb'.notBox hb1 (by decide) (by decide) hf)
      have hk3 : Kept w (((w1.setCell ⟨w.heap.size + 1, 0, none⟩ (.int .i64 0)).setCell ⟨w.heap.size + 1, 1, none⟩ (.slice ao an ac)).setCell ⟨w.heap.size + 1, 2, none⟩ (.slice none 0 0)) (Ft b m v) := (((Below.kept HV.out.1).mono (fun k h1 h2 => by omega)).trans hk' (fun _ _ h => h)).trans hkt (fun k h1 e => by omega)
      refine ⟨row_lower hu3 (by omega), World.ownsRow_nil _ _ _ _, v', hb3, hk3, ?_, ?_⟩
      · exact .inl hn'
      · exact fun k h1 => by cases h1
    subst hau
    clear hu hb' hk' hn'
    go_wp2
    all_goals (refine told_ret Tryz.results8 _ _ _ hb1 rfl rfl ?_; exact ⟨_, _, rfl, HE.out⟩)
  · have hE : stE s l = 0 := by simp [stE, hq]
    have hF : stF s l = ([] : List WaT) := by simp [stF, hq]
    have hW : stW s l = l.filter (ofC s.wa.1) := by simp [stW, hq]
    have hL : stL s l = l.filter (fun x => !ofC s.wa.1 x) := by simp [stL, hq]
    rw [hE, hF, hW, hL]
    clear hE hF hW hL hk
    have e0 : (s.what == 0) = false := by simp [hq]
    have e1 : (s.what == 1) = false := by simp [hq]
    have e2 : (s.what == 2) = true := by simp [hq]
    have e3 : (s.what == 3) = false := by simp [hq]
    clear hq
    go_enter Tryz.func8, Tryz.ntmps8
    go_wp2_with fail
    go_at_call 19
    generalize (w.alloc (stBoxC s)).alloc zeroTold = V at *
    refine Calls.mono (drop_any s.wa.1 HV.out.2.2.1 (by omega) HV.out.2.2.2.1.nd) ?_
    rintro e w1 ⟨u, rfl, hu, v', hb', hk', hn'⟩
    clear d1 d2 d3 d4 d5 d6 z0
    have hb1 : w1.heap[w.heap.size + 1]? = some zeroTold := hk'.heap HV.out.2.1 (fun hf => by have := HV.out.2.2.2.2.2.lt hf; omega)
    have o0 := cell_of_row _ (w.heap.size + 1) 0 _ _ _ hb1
    have o1 := cell_of_row _ (w.heap.size + 1) 1 _ _ _ hb1
    have o2 := cell_of_row _ (w.heap.size + 1) 2 _ _ _ hb1
    have p0 := frozen_of_row _ (w.heap.size + 1) 0 _ _ hb1
    have p1 := frozen_of_row _ (w.heap.size + 1) 1 _ _ hb1
    have p2 := frozen_of_row _ (w.heap.size + 1) 2 _ _ hb1
    have z2 := lt_of_block hb1
    obtain ⟨ao, an, ac, hau⟩ : ∃ a n c, u = .slice a n c := by
      obtain ⟨a, c, e⟩ := rowS hu
      exact ⟨a, _, c, e⟩
    have HE : Hid ((((w1.setCell ⟨w.heap.size + 1, 0, none⟩ (.int .i64 0)).setCell ⟨w.heap.size + 1, 1, none⟩ (.slice none 0 0)).setCell ⟨w.heap.size + 1, 2, none⟩ (.slice ao an ac)).ownsRow w.heap.size 77 5 (Value.slice none 0 0) (([] : List WaT)).length (fiFlat s.ch (([] : List WaT))) ∧ (((w1.setCell ⟨w.heap.size + 1, 0, none⟩ (.int .i64 0)).setCell ⟨w.heap.size + 1, 1, none⟩ (.slice none 0 0)).setCell ⟨w.heap.size + 1, 2, none⟩ (.slice ao an ac)).ownsRow w.heap.size 57 3 (Value.slice ao an ac) (l.filter (ofC s.wa.1)).length (waFlat (l.filter (ofC s.wa.1))) ∧ ∃ v', Bo (((w1.setCell ⟨w.heap.size + 1, 0, none⟩ (.int .i64 0)).setCell ⟨w.heap.size + 1, 1, none⟩ (.slice none 0 0)).setCell ⟨w.heap.size + 1, 2, none⟩ (.slice ao an ac)) b m v' (l.filter (fun x => !ofC s.wa.1 x)) (l.filter (fun x => !ofC s.wa.1 x)) ∧ Kept w (((w1.setCell ⟨w.heap.size + 1, 0, none⟩ (.int .i64 0)).setCell ⟨w.heap.size + 1, 1, none⟩ (.slice none 0 0)).setCell ⟨w.heap.size + 1, 2, none⟩ (.slice ao an ac)) (Ft b m v) ∧ NewRow w v v' ∧ ∀ k, (Value.slice ao an ac).ownBlock = some k → v'.ownBlock ≠ some k) := by
      have hkt := told_kept w1 (w.heap.size + 1) (.int .i64 0) (.slice none 0 0) (.slice ao an ac)
      have hsz := HV.out.1.size
      have hz1 : w.heap.size + 1 < V.heap.size := lt_of_block HV.out.2.1
      rw [hau] at hu
      have hu3 := rowK hu hkt (fun g hg e => by subst e; obtain ⟨cs, e'⟩ := rowT hu hg; rw [hb1] at e'; simp at e')
      have hb3 : Bo (((w1.setCell ⟨w.heap.size + 1, 0, none⟩ (.int .i64 0)).setCell ⟨w.heap.size + 1, 1, none⟩ (.slice none 0 0)).setCell ⟨w.heap.size + 1, 2, none⟩ (.slice ao an ac)) b m v' (l.filter (fun x => !ofC s.wa.1 x)) (l.filter (fun x => !ofC s.wa.1 x)) := hb'.kept hkt (fun k hf e => by
        subst e
        exact hb'.notBox hb1 (by decide) (by decide) hf)
      have hk3 : Kept w (((w1.setCell ⟨w.heap.size + 1, 0, none⟩ (.int .i64 0)).setCell ⟨w.heap.size + 1, 1, none⟩ (.slice none 0 0)).setCell ⟨w.heap.size + 1, 2, none⟩ (.slice ao an ac)) (Ft b m v) := (((Below.kept HV.out.1).mono (fun k h1 h2 => by omega)).trans hk' (fun _ _ h => h)).trans hkt (fun k h1 e => by omega)
      refine ⟨World.ownsRow_nil _ _ _ _, row_lower hu3 (by omega), v', hb3, hk3, ?_, ?_⟩
      · exact .inl hn'
      · exact fun k h1 h2 => by have := (hu.lt k h1).1; have := HV.out.2.2.2.2.2.lt (.inr (.inr (hn' ▸ h2))); omega
    subst hau
    clear hu hb' hk' hn'
    go_wp2
    all_goals (refine told_ret Tryz.results8 _ _ _ hb1 rfl rfl ?_; exact ⟨_, _, rfl, HE.out⟩)
  · have hE : stE s l = 0 := by simp [stE, hq]
    have hF : stF s l = ([] : List WaT) := by simp [stF, hq]
    have hW : stW s l = l := by simp [stW, hq]
    have hL : stL s l = ([] : List WaT) := by simp [stL, hq]
    rw [hE, hF, hW, hL]
    clear hE hF hW hL hk
    have e0 : (s.what == 0) = false := by simp [hq]
    have e1 : (s.what == 1) = false := by simp [hq]
    have e2 : (s.what == 2) = false := by simp [hq]
    have e3 : (s.what == 3) = true := by simp [hq]
    clear hq
    go_enter Tryz.func8, Tryz.ntmps8
    go_wp2_with fail
    go_at_call 20
    generalize (w.alloc (stBoxC s)).alloc zeroTold = V at *
    refine Calls.mono (clear_any HV.out.2.2.1 (by omega)) ?_
    rintro e w1 ⟨u, rfl, hu, v', hb', hk', hn'⟩
    clear d1 d2 d3 d4 d5 d6 z0
    have hb1 : w1.heap[w.heap.size + 1]? = some zeroTold := hk'.heap HV.out.2.1 (fun hf => by have := HV.out.2.2.2.2.2.lt hf; omega)
    have o0 := cell_of_row _ (w.heap.size + 1) 0 _ _ _ hb1
    have o1 := cell_of_row _ (w.heap.size + 1) 1 _ _ _ hb1
    have o2 := cell_of_row _ (w.heap.size + 1) 2 _ _ _ hb1
    have p0 := frozen_of_row _ (w.heap.size + 1) 0 _ _ hb1
    have p1 := frozen_of_row _ (w.heap.size + 1) 1 _ _ hb1
    have p2 := frozen_of_row _ (w.heap.size + 1) 2 _ _ hb1
    have z2 := lt_of_block hb1
    obtain ⟨ao, an, ac, hau⟩ : ∃ a n c, u = .slice a n c := by
      obtain ⟨a, c, e⟩ := rowS hu
      exact ⟨a, _, c, e⟩
    have HE : Hid ((((w1.setCell ⟨w.heap.size + 1, 0, none⟩ (.int .i64 0)).setCell ⟨w.heap.size + 1, 1, none⟩ (.slice none 0 0)).setCell ⟨w.heap.size + 1, 2, none⟩ (.slice ao an ac)).ownsRow w.heap.size 77 5 (Value.slice none 0 0) (([] : List WaT)).length (fiFlat s.ch (([] : List WaT))) ∧ (((w1.setCell ⟨w.heap.size + 1, 0, none⟩ (.int .i64 0)).setCell ⟨w.heap.size + 1, 1, none⟩ (.slice none 0 0)).setCell ⟨w.heap.size + 1, 2, none⟩ (.slice ao an ac)).ownsRow w.heap.size 57 3 (Value.slice ao an ac) (l).length (waFlat (l)) ∧ ∃ v', Bo (((w1.setCell ⟨w.heap.size + 1, 0, none⟩ (.int .i64 0)).setCell ⟨w.heap.size + 1, 1, none⟩ (.slice none 0 0)).setCell ⟨w.heap.size + 1, 2, none⟩ (.slice ao an ac)) b m v' (([] : List WaT)) (([] : List WaT)) ∧ Kept w (((w1.setCell ⟨w.heap.size + 1, 0, none⟩ (.int .i64 0)).setCell ⟨w.heap.size + 1, 1, none⟩ (.slice none 0 0)).setCell ⟨w.heap.size + 1, 2, none⟩ (.slice ao an ac)) (Ft b m v) ∧ NewRow w v v' ∧ ∀ k, (Value.slice ao an ac).ownBlock = some k → v'.ownBlock ≠ some k) := by
      have hkt := told_kept w1 (w.heap.size + 1) (.int .i64 0) (.slice none 0 0) (.slice ao an ac)
      have hsz := HV.out.1.size
      have hz1 : w.heap.size + 1 < V.heap.size := lt_of_block HV.out.2.1
      rw [hau] at hu
      have hu3 := rowK hu hkt (fun g hg e => by subst e; obtain ⟨cs, e'⟩ := rowT hu hg; rw [hb1] at e'; simp at e')
      have hb3 : Bo (((w1.setCell ⟨w.heap.size + 1, 0, none⟩ (.int .i64 0)).setCell ⟨w.heap.size + 1, 1, none⟩ (.slice none 0 0)).setCell ⟨w.heap.size + 1, 2, none⟩ (.slice ao an ac)) b m v' (([] : List WaT)) (([] : List WaT)) := hb'.kept hkt (fun k hf e => by
        subst e
        exact hb'.notBox hb1 (by decide) (by decide) hf)
      have hk3 : Kept w (((w1.setCell ⟨w.heap.size + 1, 0, none⟩ (.int .i64 0)).setCell ⟨w.heap.size + 1, 1, none⟩ (.slice none 0 0)).setCell ⟨w.heap.size + 1, 2, none⟩ (.slice ao an ac)) (Ft b m v) := (((Below.kept HV.out.1).mono (fun k h1 h2 => by omega)).trans hk' (fun _ _ h => h)).trans hkt (fun k h1 e => by omega)
      refine ⟨World.ownsRow_nil _ _ _ _, row_lower hu3 (by omega), v', hb3, hk3, ?_, ?_⟩
      · exact .inl hn'
      · exact fun k h1 h2 => by have := (hu.lt k h1).1; have := HV.out.2.2.2.2.2.lt (.inr (.inr (hn' ▸ h2))); omega
    subst hau
    clear hu hb' hk' hn'
    go_wp2
    all_goals (refine told_ret Tryz.results8 _ _ _ hb1 rfl rfl ?_; exact ⟨_, _, rfl, HE.out⟩)
  · have hE : stE s l = 0 := by simp [stE, hq]
    have hF : stF s l = ([] : List WaT) := by simp [stF, hq]
    have hW : stW s l = l := by simp [stW, hq]
    have hL : stL s l = l := by simp [stL, hq]
    rw [hE, hF, hW, hL]
    clear hE hF hW hL hk
    have e0 : (s.what == 0) = false := by simp [hq]
    have e1 : (s.what == 1) = false := by simp [hq]
    have e2 : (s.what == 2) = false := by simp [hq]
    have e3 : (s.what == 3) = false := by simp [hq]
    clear hq
    go_enter Tryz.func8, Tryz.ntmps8
    go_wp2_with fail
    go_at_call 13
    generalize (w.alloc (stBoxC s)).alloc zeroTold = V at *
    refine Calls.mono (all_any HV.out.2.2.1 (by omega)) ?_
    rintro e w1 ⟨u, rfl, hu, hB'⟩
    clear d1 d2 d3 d4 d5 d6 z0
    have hk' : Kept V w1 (Ft b m v) := (Below.kept hB').mono (fun k h1 h2 => by omega)
    have hb' := HV.out.2.2.1.below hB'
    have hb1 : w1.heap[w.heap.size + 1]? = some zeroTold := hk'.heap HV.out.2.1 (fun hf => by have := HV.out.2.2.2.2.2.lt hf; omega)
    have o0 := cell_of_row _ (w.heap.size + 1) 0 _ _ _ hb1
    have o1 := cell_of_row _ (w.heap.size + 1) 1 _ _ _ hb1
    have o2 := cell_of_row _ (w.heap.size + 1) 2 _ _ _ hb1
    have p0 := frozen_of_row _ (w.heap.size + 1) 0 _ _ hb1
    have p1 := frozen_of_row _ (w.heap.size + 1) 1 _ _ hb1
    have p2 := frozen_of_row _ (w.heap.size + 1) 2 _ _ hb1
    have z2 := lt_of_block hb1
    obtain ⟨ao, an, ac, hau⟩ : ∃ a n c, u = .slice a n c := by
      obtain ⟨a, c, e⟩ := rowS hu
      exact ⟨a, _, c, e⟩
    have HE : Hid ((((w1.setCell ⟨w.heap.size + 1, 0, none⟩ (.int .i64 0)).setCell ⟨w.heap.size + 1, 1, none⟩ (.slice none 0 0)).setCell ⟨w.heap.size + 1, 2, none⟩ (.slice ao an ac)).ownsRow w.heap.size 77 5 (Value.slice none 0 0) (([] : List WaT)).length (fiFlat s.ch (([] : List WaT))) ∧ (((w1.setCell ⟨w.heap.size + 1, 0, none⟩ (.int .i64 0)).setCell ⟨w.heap.size + 1, 1, none⟩ (.slice none 0 0)).setCell ⟨w.heap.size + 1, 2, none⟩ (.slice ao an ac)).ownsRow w.heap.size 57 3 (Value.slice ao an ac) (l).length (waFlat (l)) ∧ ∃ v', Bo (((w1.setCell ⟨w.heap.size + 1, 0, none⟩ (.int .i64 0)).setCell ⟨w.heap.size + 1, 1, none⟩ (.slice none 0 0)).setCell ⟨w.heap.size + 1, 2, none⟩ (.slice ao an ac)) b m v' (l) (l) ∧ Kept w (((w1.setCell ⟨w.heap.size + 1, 0, none⟩ (.int .i64 0)).setCell ⟨w.heap.size + 1, 1, none⟩ (.slice none 0 0)).setCell ⟨w.heap.size + 1, 2, none⟩ (.slice ao an ac)) (Ft b m v) ∧ NewRow w v v' ∧ ∀ k, (Value.slice ao an ac).ownBlock = some k → v'.ownBlock ≠ some k) := by
      have hkt := told_kept w1 (w.heap.size + 1) (.int .i64 0) (.slice none 0 0) (.slice ao an ac)
      have hsz := HV.out.1.size
      have hz1 : w.heap.size + 1 < V.heap.size := lt_of_block HV.out.2.1
      rw [hau] at hu
      have hu3 := rowK hu hkt (fun g hg e => by subst e; obtain ⟨cs, e'⟩ := rowT hu hg; rw [hb1] at e'; simp at e')
      have hb3 : Bo (((w1.setCell ⟨w.heap.size + 1, 0, none⟩ (.int .i64 0)).setCell ⟨w.heap.size + 1, 1, none⟩ (.slice none 0 0)).setCell ⟨w.heap.size + 1, 2, none⟩ (.slice ao an ac)) b m v (l) (l) := hb'.kept hkt (fun k hf e => by
        subst e
        exact hb'.notBox hb1 (by decide) (by decide) hf)
      have hk3 : Kept w (((w1.setCell ⟨w.heap.size + 1, 0, none⟩ (.int .i64 0)).setCell ⟨w.heap.size + 1, 1, none⟩ (.slice none 0 0)).setCell ⟨w.heap.size + 1, 2, none⟩ (.slice ao an ac)) (Ft b m v) := (((Below.kept HV.out.1).mono (fun k h1 h2 => by omega)).trans hk' (fun _ _ h => h)).trans hkt (fun k h1 e => by omega)
      refine ⟨World.ownsRow_nil _ _ _ _, row_lower hu3 (by omega), v, hb3, hk3, ?_, ?_⟩
      · exact .inl rfl
      · exact fun k h1 h2 => by have := (hu.lt k h1).1; have := HV.out.2.2.2.2.2.lt (.inr (.inr (h2))); omega
    subst hau
    clear hu hb' hk'
    go_wp2
    all_goals (refine told_ret Tryz.results8 _ _ _ hb1 rfl rfl ?_; exact ⟨_, _, rfl, HE.out⟩)

set_option maxHeartbeats 4000000 in
theorem wants_any {w : World} {b : Nat} {v : Value} {l : List WaT} (s : StT) (h : Rb w b v l) (hw : Wats l) (hs : s.few) (hk : 0 ≤ s.what ∧ s.what ≤ 4) :
    Calls Tryz.prog 9 #[.pointer (some ⟨b, 0, none⟩), stAgg s] w fun e w' => ∃ uf uw, e = .returned (.agg #[.int .i64 (stE s l), uf, uw]) ∧ w'.ownsRow w.heap.size 77 5 uf (stF s l).length (fiFlat s.ch (stF s l)) ∧ w'.ownsRow 0 57 3 uw (stW s l).length (waFlat (stW s l)) ∧ ∃ v', Rb w' b v' (stL s l) ∧ Kept w w' (FtR b v) ∧ (∀ k, v'.ownBlock = some k → v.ownBlock = some k ∨ w.heap.size ≤ k) := by
  have hl := hw.le
  have B0 : Below w.heap.size w ((w.alloc (stBoxC s)).alloc zeroTold) := ((Below.refl _ w).alloc (Nat.le_refl _) _).alloc (by simp) _
  have n0 : ((w.alloc (stBoxC s)).alloc zeroTold).heap[w.heap.size]? = some (stBoxC s) := by
    rw [Below.heap_alloc _ _ _ (by simp)]; exact heap_alloc_new _ _
  have n1 : ((w.alloc (stBoxC s)).alloc zeroTold).heap[w.heap.size + 1]? = some zeroTold := by
    have := heap_alloc_new (w.alloc (stBoxC s)) zeroTold; rwa [World.size_alloc] at this
  have HV : Hid (Below w.heap.size w ((w.alloc (stBoxC s)).alloc zeroTold) ∧ ((w.alloc (stBoxC s)).alloc zeroTold).heap[w.heap.size + 1]? = some zeroTold ∧ Rb ((w.alloc (stBoxC s)).alloc zeroTold) b v l ∧ Wats l ∧ s.few ∧ Rb w b v l) := ⟨B0, n1, h.below B0, hw, hs, h⟩
  have d1 := cell_of_row _ w.heap.size 1 _ _ _ n0
  have d2 := cell_of_row _ w.heap.size 2 _ _ _ n0
  have d3 := cell_of_row _ w.heap.size 3 _ _ _ n0
  have d4 := cell_of_row _ w.heap.size 4 _ _ _ n0
  have d5 := cell_of_row _ w.heap.size 5 _ _ _ n0
  have d6 := cell_of_row _ w.heap.size 6 _ _ _ n0
  have z0 := lt_of_block n0
  have z1 := lt_of_block n1
  clear h hw hs B0 n0 n1
  rcases (show s.what = 0 ∨ s.what = 1 ∨ s.what = 2 ∨ s.what = 3 ∨ s.what = 4 by omega) with hq | hq | hq | hq | hq
  · have hE : stE s l = addE s.wa l := by simp [stE, hq]
    have hF : stF s l = ([] : List WaT) := by simp [stF, hq]
    have hW : stW s l = ([] : List WaT) := by simp [stW, hq]
    have hL : stL s l = addL s.wa l := by simp [stL, hq]
    rw [hE, hF, hW, hL]
    clear hE hF hW hL hk
    have e0 : (s.what == 0) = true := by simp [hq]
    have e1 : (s.what == 1) = false := by simp [hq]
    have e2 : (s.what == 2) = false := by simp [hq]
    have e3 : (s.what == 3) = false := by simp [hq]
    clear hq
    go_enter Tryz.func9, Tryz.ntmps9
    go_wp2_with fail
    go_at_call 21
    generalize (w.alloc (stBoxC s)).alloc zeroTold = V at *
    refine Calls.mono (rAdd_any s.wa HV.out.2.2.1 (by omega) (by have := HV.out.2.2.2.2.1.1; omega)) ?_
    rintro e w1 ⟨rfl, v', hb', hk', hn'⟩
    clear d1 d2 d3 d4 d5 d6 z0
    have hb1 : w1.heap[w.heap.size + 1]? = some zeroTold := hk'.heap HV.out.2.1 (fun hf => by have := HV.out.2.2.2.2.2.lt hf; omega)
    have o0 := cell_of_row _ (w.heap.size + 1) 0 _ _ _ hb1
    have o1 := cell_of_row _ (w.heap.size + 1) 1 _ _ _ hb1
    have o2 := cell_of_row _ (w.heap.size + 1) 2 _ _ _ hb1
    have p0 := frozen_of_row _ (w.heap.size + 1) 0 _ _ hb1
    have p1 := frozen_of_row _ (w.heap.size + 1) 1 _ _ hb1
    have p2 := frozen_of_row _ (w.heap.size + 1) 2 _ _ hb1
    have z2 := lt_of_block hb1
    have HE : Hid ((((w1.setCell ⟨w.heap.size + 1, 0, none⟩ (.int .i64 (addE s.wa l))).setCell ⟨w.heap.size + 1, 1, none⟩ (.slice none 0 0)).setCell ⟨w.heap.size + 1, 2, none⟩ (.slice none 0 0)).ownsRow w.heap.size 77 5 (Value.slice none 0 0) (([] : List WaT)).length (fiFlat s.ch (([] : List WaT))) ∧ (((w1.setCell ⟨w.heap.size + 1, 0, none⟩ (.int .i64 (addE s.wa l))).setCell ⟨w.heap.size + 1, 1, none⟩ (.slice none 0 0)).setCell ⟨w.heap.size + 1, 2, none⟩ (.slice none 0 0)).ownsRow 0 57 3 (Value.slice none 0 0) (([] : List WaT)).length (waFlat (([] : List WaT))) ∧ ∃ v', Rb (((w1.setCell ⟨w.heap.size + 1, 0, none⟩ (.int .i64 (addE s.wa l))).setCell ⟨w.heap.size + 1, 1, none⟩ (.slice none 0 0)).setCell ⟨w.heap.size + 1, 2, none⟩ (.slice none 0 0)) b v' (addL s.wa l) ∧ Kept w (((w1.setCell ⟨w.heap.size + 1, 0, none⟩ (.int .i64 (addE s.wa l))).setCell ⟨w.heap.size + 1, 1, none⟩ (.slice none 0 0)).setCell ⟨w.heap.size + 1, 2, none⟩ (.slice none 0 0)) (FtR b v) ∧ (∀ k, v'.ownBlock = some k → v.ownBlock = some k ∨ w.heap.size ≤ k)) := by
      have hkt := told_kept w1 (w.heap.size + 1) (.int .i64 (addE s.wa l)) (.slice none 0 0) (.slice none 0 0)
      have hsz := HV.out.1.size
      have hz1 : w.heap.size + 1 < V.heap.size := lt_of_block HV.out.2.1
      have hb3 : Rb (((w1.setCell ⟨w.heap.size + 1, 0, none⟩ (.int .i64 (addE s.wa l))).setCell ⟨w.heap.size + 1, 1, none⟩ (.slice none 0 0)).setCell ⟨w.heap.size + 1, 2, none⟩ (.slice none 0 0)) b v' (addL s.wa l) := hb'.kept hkt (fun k hf e => by
        subst e
        rcases hf with e2 | hf
        · have := lt_of_block HV.out.2.2.2.2.2.hb; omega
        · obtain ⟨cs, e'⟩ := rowT hb'.ho hf; rw [hb1] at e'; simp at e')
      have hk3 : Kept w (((w1.setCell ⟨w.heap.size + 1, 0, none⟩ (.int .i64 (addE s.wa l))).setCell ⟨w.heap.size + 1, 1, none⟩ (.slice none 0 0)).setCell ⟨w.heap.size + 1, 2, none⟩ (.slice none 0 0)) (FtR b v) := (((Below.kept HV.out.1).mono (fun k h1 h2 => by omega)).trans hk' (fun _ _ h => h)).trans hkt (fun k h1 e => by omega)
      refine ⟨World.ownsRow_nil _ _ _ _, World.ownsRow_nil _ _ _ _, v', hb3, hk3, ?_⟩
      exact fun k hv => (show _ ∨ _ from hn').elim (fun e => .inl (e ▸ hv)) (fun ⟨k2, e, h2⟩ => .inr (by rw [e] at hv; simp at hv; omega))
    clear hb' hk' hn'
    go_wp2
    all_goals (refine told_ret Tryz.results9 _ _ _ hb1 rfl rfl ?_; exact ⟨_, _, rfl, HE.out⟩)
  · have hE : stE s l = 0 := by simp [stE, hq]
    have hF : stF s l = l.filter (mB s.ch) := by simp [stF, hq]
    have hW : stW s l = ([] : List WaT) := by simp [stW, hq]
    have hL : stL s l = l.filter (sB s.ch) := by simp [stL, hq]
    rw [hE, hF, hW, hL]
    clear hE hF hW hL hk
    have e0 : (s.what == 0) = false := by simp [hq]
    have e1 : (s.what == 1) = true := by simp [hq]
    have e2 : (s.what == 2) = false := by simp [hq]
    have e3 : (s.what == 3) = false := by simp [hq]
    clear hq
    go_enter Tryz.func9, Tryz.ntmps9
    go_wp2_with fail
    go_at_call 22
    generalize (w.alloc (stBoxC s)).alloc zeroTold = V at *
    refine Calls.mono (rFire_any s.ch HV.out.2.2.1 HV.out.2.2.2.1 (by have := HV.out.2.2.2.2.1.2; omega)) ?_
    rintro e w1 ⟨u, rfl, hu, v', hb', hk', hn'⟩
    clear d1 d2 d3 d4 d5 d6 z0
    have hb1 : w1.heap[w.heap.size + 1]? = some zeroTold := hk'.heap HV.out.2.1 (fun e => by have := lt_of_block HV.out.2.2.2.2.2.hb; omega)
    have o0 := cell_of_row _ (w.heap.size + 1) 0 _ _ _ hb1
    have o1 := cell_of_row _ (w.heap.size + 1) 1 _ _ _ hb1
    have o2 := cell_of_row _ (w.heap.size + 1) 2 _ _ _ hb1
    have p0 := frozen_of_row _ (w.heap.size + 1) 0 _ _ hb1
    have p1 := frozen_of_row _ (w.heap.size + 1) 1 _ _ hb1
    have p2 := frozen_of_row _ (w.heap.size + 1) 2 _ _ hb1
    have z2 := lt_of_block hb1
    obtain ⟨ao, an, ac, hau⟩ : ∃ a n c, u = .slice a n c := by
      obtain ⟨a, c, e⟩ := rowS hu
      exact ⟨a, _, c, e⟩
    have HE : Hid ((((w1.setCell ⟨w.heap.size + 1, 0, none⟩ (.int .i64 0)).setCell ⟨w.heap.size + 1, 1, none⟩ (.slice ao an ac)).setCell ⟨w.heap.size + 1, 2, none⟩ (.slice none 0 0)).ownsRow w.heap.size 77 5 (Value.slice ao an ac) (l.filter (mB s.ch)).length (fiFlat s.ch (l.filter (mB s.ch))) ∧ (((w1.setCell ⟨w.heap.size + 1, 0, none⟩ (.int .i64 0)).setCell ⟨w.heap.size + 1, 1, none⟩ (.slice ao an ac)).setCell ⟨w.heap.size + 1, 2, none⟩ (.slice none 0 0)).ownsRow 0 57 3 (Value.slice none 0 0) (([] : List WaT)).length (waFlat (([] : List WaT))) ∧ ∃ v', Rb (((w1.setCell ⟨w.heap.size + 1, 0, none⟩ (.int .i64 0)).setCell ⟨w.heap.size + 1, 1, none⟩ (.slice ao an ac)).setCell ⟨w.heap.size + 1, 2, none⟩ (.slice none 0 0)) b v' (l.filter (sB s.ch)) ∧ Kept w (((w1.setCell ⟨w.heap.size + 1, 0, none⟩ (.int .i64 0)).setCell ⟨w.heap.size + 1, 1, none⟩ (.slice ao an ac)).setCell ⟨w.heap.size + 1, 2, none⟩ (.slice none 0 0)) (FtR b v) ∧ (∀ k, v'.ownBlock = some k → v.ownBlock = some k ∨ w.heap.size ≤ k)) := by
      have hkt := told_kept w1 (w.heap.size + 1) (.int .i64 0) (.slice ao an ac) (.slice none 0 0)
      have hsz := HV.out.1.size
      have hz1 : w.heap.size + 1 < V.heap.size := lt_of_block HV.out.2.1
      rw [hau] at hu
      have hu3 := rowK hu hkt (fun g hg e => by subst e; obtain ⟨cs, e'⟩ := rowT hu hg; rw [hb1] at e'; simp at e')
      have hb3 : Rb (((w1.setCell ⟨w.heap.size + 1, 0, none⟩ (.int .i64 0)).setCell ⟨w.heap.size + 1, 1, none⟩ (.slice ao an ac)).setCell ⟨w.heap.size + 1, 2, none⟩ (.slice none 0 0)) b v' (l.filter (sB s.ch)) := hb'.kept hkt (fun k hf e => by
        subst e
        rcases hf with e2 | hf
        · have := lt_of_block HV.out.2.2.2.2.2.hb; omega
        · obtain ⟨cs, e'⟩ := rowT hb'.ho hf; rw [hb1] at e'; simp at e')
      have hk3 : Kept w (((w1.setCell ⟨w.heap.size + 1, 0, none⟩ (.int .i64 0)).setCell ⟨w.heap.size + 1, 1, none⟩ (.slice ao an ac)).setCell ⟨w.heap.size + 1, 2, none⟩ (.slice none 0 0)) (FtR b v) := (((Below.kept HV.out.1).mono (fun k h1 h2 => by omega)).trans hk' (fun _ _ h => .inl h)).trans hkt (fun k h1 e => by omega)
      refine ⟨row_lower hu3 (by omega), World.ownsRow_nil _ _ _ _, v', hb3, hk3, ?_⟩
      exact fun k hv => hn'.elim (fun e => .inl (e ▸ hv)) (fun h2 => .inr (by have := h2 k hv; omega))
    subst hau
    clear hu hb' hk' hn'
    go_wp2
    all_goals (refine told_ret Tryz.results9 _ _ _ hb1 rfl rfl ?_; exact ⟨_, _, rfl, HE.out⟩)
  · have hE : stE s l = 0 := by simp [stE, hq]
    have hF : stF s l = ([] : List WaT) := by simp [stF, hq]
    have hW : stW s l = l.filter (ofC s.wa.1) := by simp [stW, hq]
    have hL : stL s l = l.filter (fun x => !ofC s.wa.1 x) := by simp [stL, hq]
    rw [hE, hF, hW, hL]
    clear hE hF hW hL hk
    have e0 : (s.what == 0) = false := by simp [hq]
    have e1 : (s.what == 1) = false := by simp [hq]
    have e2 : (s.what == 2) = true := by simp [hq]
    have e3 : (s.what == 3) = false := by simp [hq]
    clear hq
    go_enter Tryz.func9, Tryz.ntmps9
    go_wp2_with fail
    go_at_call 23
    generalize (w.alloc (stBoxC s)).alloc zeroTold = V at *
    refine Calls.mono (rDrop_any s.wa.1 HV.out.2.2.1 (by omega)) ?_
    rintro e w1 ⟨u, rfl, hu, v', hb', hk', hn', hap'⟩
    clear d1 d2 d3 d4 d5 d6 z0
    have hb1 : w1.heap[w.heap.size + 1]? = some zeroTold := hk'.heap HV.out.2.1 (fun e => by have := lt_of_block HV.out.2.2.2.2.2.hb; omega)
    have o0 := cell_of_row _ (w.heap.size + 1) 0 _ _ _ hb1
    have o1 := cell_of_row _ (w.heap.size + 1) 1 _ _ _ hb1
    have o2 := cell_of_row _ (w.heap.size + 1) 2 _ _ _ hb1
    have p0 := frozen_of_row _ (w.heap.size + 1) 0 _ _ hb1
    have p1 := frozen_of_row _ (w.heap.size + 1) 1 _ _ hb1
    have p2 := frozen_of_row _ (w.heap.size + 1) 2 _ _ hb1
    have z2 := lt_of_block hb1
    obtain ⟨ao, an, ac, hau⟩ : ∃ a n c, u = .slice a n c := by
      obtain ⟨a, c, e⟩ := rowS hu
      exact ⟨a, _, c, e⟩
    have HE : Hid ((((w1.setCell ⟨w.heap.size + 1, 0, none⟩ (.int .i64 0)).setCell ⟨w.heap.size + 1, 1, none⟩ (.slice none 0 0)).setCell ⟨w.heap.size + 1, 2, none⟩ (.slice ao an ac)).ownsRow w.heap.size 77 5 (Value.slice none 0 0) (([] : List WaT)).length (fiFlat s.ch (([] : List WaT))) ∧ (((w1.setCell ⟨w.heap.size + 1, 0, none⟩ (.int .i64 0)).setCell ⟨w.heap.size + 1, 1, none⟩ (.slice none 0 0)).setCell ⟨w.heap.size + 1, 2, none⟩ (.slice ao an ac)).ownsRow 0 57 3 (Value.slice ao an ac) (l.filter (ofC s.wa.1)).length (waFlat (l.filter (ofC s.wa.1))) ∧ ∃ v', Rb (((w1.setCell ⟨w.heap.size + 1, 0, none⟩ (.int .i64 0)).setCell ⟨w.heap.size + 1, 1, none⟩ (.slice none 0 0)).setCell ⟨w.heap.size + 1, 2, none⟩ (.slice ao an ac)) b v' (l.filter (fun x => !ofC s.wa.1 x)) ∧ Kept w (((w1.setCell ⟨w.heap.size + 1, 0, none⟩ (.int .i64 0)).setCell ⟨w.heap.size + 1, 1, none⟩ (.slice none 0 0)).setCell ⟨w.heap.size + 1, 2, none⟩ (.slice ao an ac)) (FtR b v) ∧ (∀ k, v'.ownBlock = some k → v.ownBlock = some k ∨ w.heap.size ≤ k)) := by
      have hkt := told_kept w1 (w.heap.size + 1) (.int .i64 0) (.slice none 0 0) (.slice ao an ac)
      have hsz := HV.out.1.size
      have hz1 : w.heap.size + 1 < V.heap.size := lt_of_block HV.out.2.1
      rw [hau] at hu
      have hu3 := rowK hu hkt (fun g hg e => by subst e; obtain ⟨cs, e'⟩ := rowT hu hg; rw [hb1] at e'; simp at e')
      have hb3 : Rb (((w1.setCell ⟨w.heap.size + 1, 0, none⟩ (.int .i64 0)).setCell ⟨w.heap.size + 1, 1, none⟩ (.slice none 0 0)).setCell ⟨w.heap.size + 1, 2, none⟩ (.slice ao an ac)) b v' (l.filter (fun x => !ofC s.wa.1 x)) := hb'.kept hkt (fun k hf e => by
        subst e
        rcases hf with e2 | hf
        · have := lt_of_block HV.out.2.2.2.2.2.hb; omega
        · obtain ⟨cs, e'⟩ := rowT hb'.ho hf; rw [hb1] at e'; simp at e')
      have hk3 : Kept w (((w1.setCell ⟨w.heap.size + 1, 0, none⟩ (.int .i64 0)).setCell ⟨w.heap.size + 1, 1, none⟩ (.slice none 0 0)).setCell ⟨w.heap.size + 1, 2, none⟩ (.slice ao an ac)) (FtR b v) := (((Below.kept HV.out.1).mono (fun k h1 h2 => by omega)).trans hk' (fun _ _ h => .inl h)).trans hkt (fun k h1 e => by omega)
      refine ⟨World.ownsRow_nil _ _ _ _, row_lower hu3 (by omega), v', hb3, hk3, ?_⟩
      exact fun k hv => by right; have := hn' k hv; omega
    subst hau
    clear hu hb' hk' hn'
    go_wp2
    all_goals (refine told_ret Tryz.results9 _ _ _ hb1 rfl rfl ?_; exact ⟨_, _, rfl, HE.out⟩)
  · have hE : stE s l = 0 := by simp [stE, hq]
    have hF : stF s l = ([] : List WaT) := by simp [stF, hq]
    have hW : stW s l = l := by simp [stW, hq]
    have hL : stL s l = ([] : List WaT) := by simp [stL, hq]
    rw [hE, hF, hW, hL]
    clear hE hF hW hL hk
    have e0 : (s.what == 0) = false := by simp [hq]
    have e1 : (s.what == 1) = false := by simp [hq]
    have e2 : (s.what == 2) = false := by simp [hq]
    have e3 : (s.what == 3) = true := by simp [hq]
    clear hq
    go_enter Tryz.func9, Tryz.ntmps9
    go_wp2_with fail
    go_at_call 24
    generalize (w.alloc (stBoxC s)).alloc zeroTold = V at *
    refine Calls.mono (rClear_any HV.out.2.2.1) ?_
    rintro e w1 ⟨rfl, hu, hb', hk'⟩
    clear d1 d2 d3 d4 d5 d6 z0
    have hb1 : w1.heap[w.heap.size + 1]? = some zeroTold := hk'.heap HV.out.2.1 (fun e => by have := lt_of_block HV.out.2.2.2.2.2.hb; omega)
    have o0 := cell_of_row _ (w.heap.size + 1) 0 _ _ _ hb1
    have o1 := cell_of_row _ (w.heap.size + 1) 1 _ _ _ hb1
    have o2 := cell_of_row _ (w.heap.size + 1) 2 _ _ _ hb1
    have p0 := frozen_of_row _ (w.heap.size + 1) 0 _ _ hb1
    have p1 := frozen_of_row _ (w.heap.size + 1) 1 _ _ hb1
    have p2 := frozen_of_row _ (w.heap.size + 1) 2 _ _ hb1
    have z2 := lt_of_block hb1
    obtain ⟨ao, an, ac, hau⟩ : ∃ a n c, v = .slice a n c := by
      obtain ⟨a, c, e⟩ := rowS hu
      exact ⟨a, _, c, e⟩
    have HE : Hid ((((w1.setCell ⟨w.heap.size + 1, 0, none⟩ (.int .i64 0)).setCell ⟨w.heap.size + 1, 1, none⟩ (.slice none 0 0)).setCell ⟨w.heap.size + 1, 2, none⟩ (.slice ao an ac)).ownsRow w.heap.size 77 5 (Value.slice none 0 0) (([] : List WaT)).length (fiFlat s.ch (([] : List WaT))) ∧ (((w1.setCell ⟨w.heap.size + 1, 0, none⟩ (.int .i64 0)).setCell ⟨w.heap.size + 1, 1, none⟩ (.slice none 0 0)).setCell ⟨w.heap.size + 1, 2, none⟩ (.slice ao an ac)).ownsRow 0 57 3 (Value.slice ao an ac) (l).length (waFlat (l)) ∧ ∃ v', Rb (((w1.setCell ⟨w.heap.size + 1, 0, none⟩ (.int .i64 0)).setCell ⟨w.heap.size + 1, 1, none⟩ (.slice none 0 0)).setCell ⟨w.heap.size + 1, 2, none⟩ (.slice ao an ac)) b v' (([] : List WaT)) ∧ Kept w (((w1.setCell ⟨w.heap.size + 1, 0, none⟩ (.int .i64 0)).setCell ⟨w.heap.size + 1, 1, none⟩ (.slice none 0 0)).setCell ⟨w.heap.size + 1, 2, none⟩ (.slice ao an ac)) (FtR b v) ∧ (∀ k, v'.ownBlock = some k → v.ownBlock = some k ∨ w.heap.size ≤ k)) := by
      have hkt := told_kept w1 (w.heap.size + 1) (.int .i64 0) (.slice none 0 0) (.slice ao an ac)
      have hsz := HV.out.1.size
      have hz1 : w.heap.size + 1 < V.heap.size := lt_of_block HV.out.2.1
      have hu0 := hu
      rw [hau] at hu
      have hu3 := rowK hu hkt (fun g hg e => by subst e; obtain ⟨cs, e'⟩ := rowT hu hg; rw [hb1] at e'; simp at e')
      have hb3 : Rb (((w1.setCell ⟨w.heap.size + 1, 0, none⟩ (.int .i64 0)).setCell ⟨w.heap.size + 1, 1, none⟩ (.slice none 0 0)).setCell ⟨w.heap.size + 1, 2, none⟩ (.slice ao an ac)) b (.slice none 0 0) (([] : List WaT)) := hb'.kept hkt (fun k hf e => by
        subst e
        rcases hf with e2 | hf
        · have := lt_of_block HV.out.2.2.2.2.2.hb; omega
        · obtain ⟨cs, e'⟩ := rowT hb'.ho hf; rw [hb1] at e'; simp at e')
      have hk3 : Kept w (((w1.setCell ⟨w.heap.size + 1, 0, none⟩ (.int .i64 0)).setCell ⟨w.heap.size + 1, 1, none⟩ (.slice none 0 0)).setCell ⟨w.heap.size + 1, 2, none⟩ (.slice ao an ac)) (FtR b v) := (((Below.kept HV.out.1).mono (fun k h1 h2 => by omega)).trans hk' (fun _ _ h => .inl h)).trans hkt (fun k h1 e => by omega)
      refine ⟨World.ownsRow_nil _ _ _ _, row_lower hu3 (by omega), (.slice none 0 0), hb3, hk3, ?_⟩
      exact fun k hv => by cases hv
    subst hau
    clear hu hb' hk'
    go_wp2
    all_goals (refine told_ret Tryz.results9 _ _ _ hb1 rfl rfl ?_; exact ⟨_, _, rfl, HE.out⟩)
  · have hE : stE s l = 0 := by simp [stE, hq]
    have hF : stF s l = ([] : List WaT) := by simp [stF, hq]
    have hW : stW s l = l := by simp [stW, hq]
    have hL : stL s l = l := by simp [stL, hq]
    rw [hE, hF, hW, hL]
    clear hE hF hW hL hk
    have e0 : (s.what == 0) = false := by simp [hq]
    have e1 : (s.what == 1) = false := by simp [hq]
    have e2 : (s.what == 2) = false := by simp [hq]
    have e3 : (s.what == 3) = false := by simp [hq]
    clear hq
    go_enter Tryz.func9, Tryz.ntmps9
    go_wp2_with fail
    go_at_call 14
    generalize (w.alloc (stBoxC s)).alloc zeroTold = V at *
    refine Calls.mono (rAll_any HV.out.2.2.1 (by omega)) ?_
    rintro e w1 ⟨u, rfl, hu, hB'⟩
    clear d1 d2 d3 d4 d5 d6 z0
    have hk' : Kept V w1 (FtR b v) := (Below.kept hB').mono (fun k h1 h2 => by omega)
    have hb' := HV.out.2.2.1.below hB'
    have hb1 : w1.heap[w.heap.size + 1]? = some zeroTold := hk'.heap HV.out.2.1 (fun hf => by have := HV.out.2.2.2.2.2.lt hf; omega)
    have o0 := cell_of_row _ (w.heap.size + 1) 0 _ _ _ hb1
    have o1 := cell_of_row _ (w.heap.size + 1) 1 _ _ _ hb1
    have o2 := cell_of_row _ (w.heap.size + 1) 2 _ _ _ hb1
    have p0 := frozen_of_row _ (w.heap.size + 1) 0 _ _ hb1
    have p1 := frozen_of_row _ (w.heap.size + 1) 1 _ _ hb1
    have p2 := frozen_of_row _ (w.heap.size + 1) 2 _ _ hb1
    have z2 := lt_of_block hb1
    obtain ⟨ao, an, ac, hau⟩ : ∃ a n c, u = .slice a n c := by
      obtain ⟨a, c, e⟩ := rowS hu
      exact ⟨a, _, c, e⟩
    have HE : Hid ((((w1.setCell ⟨w.heap.size + 1, 0, none⟩ (.int .i64 0)).setCell ⟨w.heap.size + 1, 1, none⟩ (.slice none 0 0)).setCell ⟨w.heap.size + 1, 2, none⟩ (.slice ao an ac)).ownsRow w.heap.size 77 5 (Value.slice none 0 0) (([] : List WaT)).length (fiFlat s.ch (([] : List WaT))) ∧ (((w1.setCell ⟨w.heap.size + 1, 0, none⟩ (.int .i64 0)).setCell ⟨w.heap.size + 1, 1, none⟩ (.slice none 0 0)).setCell ⟨w.heap.size + 1, 2, none⟩ (.slice ao an ac)).ownsRow 0 57 3 (Value.slice ao an ac) (l).length (waFlat (l)) ∧ ∃ v', Rb (((w1.setCell ⟨w.heap.size + 1, 0, none⟩ (.int .i64 0)).setCell ⟨w.heap.size + 1, 1, none⟩ (.slice none 0 0)).setCell ⟨w.heap.size + 1, 2, none⟩ (.slice ao an ac)) b v' (l) ∧ Kept w (((w1.setCell ⟨w.heap.size + 1, 0, none⟩ (.int .i64 0)).setCell ⟨w.heap.size + 1, 1, none⟩ (.slice none 0 0)).setCell ⟨w.heap.size + 1, 2, none⟩ (.slice ao an ac)) (FtR b v) ∧ (∀ k, v'.ownBlock = some k → v.ownBlock = some k ∨ w.heap.size ≤ k)) := by
      have hkt := told_kept w1 (w.heap.size + 1) (.int .i64 0) (.slice none 0 0) (.slice ao an ac)
      have hsz := HV.out.1.size
      have hz1 : w.heap.size + 1 < V.heap.size := lt_of_block HV.out.2.1
      rw [hau] at hu
      have hu3 := rowK hu hkt (fun g hg e => by subst e; obtain ⟨cs, e'⟩ := rowT hu hg; rw [hb1] at e'; simp at e')
      have hb3 : Rb (((w1.setCell ⟨w.heap.size + 1, 0, none⟩ (.int .i64 0)).setCell ⟨w.heap.size + 1, 1, none⟩ (.slice none 0 0)).setCell ⟨w.heap.size + 1, 2, none⟩ (.slice ao an ac)) b v (l) := hb'.kept hkt (fun k hf e => by
        subst e
        rcases hf with e2 | hf
        · have := lt_of_block HV.out.2.2.2.2.2.hb; omega
        · obtain ⟨cs, e'⟩ := rowT hb'.ho hf; rw [hb1] at e'; simp at e')
      have hk3 : Kept w (((w1.setCell ⟨w.heap.size + 1, 0, none⟩ (.int .i64 0)).setCell ⟨w.heap.size + 1, 1, none⟩ (.slice none 0 0)).setCell ⟨w.heap.size + 1, 2, none⟩ (.slice ao an ac)) (FtR b v) := (((Below.kept HV.out.1).mono (fun k h1 h2 => by omega)).trans hk' (fun _ _ h => h)).trans hkt (fun k h1 e => by omega)
      refine ⟨World.ownsRow_nil _ _ _ _, row_lower hu3 (by omega), v, hb3, hk3, ?_⟩
      exact fun k hv => .inl hv
    subst hau
    clear hu hb' hk'
    go_wp2
    all_goals (refine told_ret Tryz.results9 _ _ _ hb1 rfl rfl ?_; exact ⟨_, _, rfl, HE.out⟩)

end Go.Proofs.YtkcapiblicfboaaGreatDoor
