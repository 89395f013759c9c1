/- The document's net: Send. -/
import Derived.Test.YtghngopclhhoeaaDoorLpBJ
namespace Go.Proofs.YtghngopclhhoeaaDoor
open Go.RowKit
set_option maxRecDepth 8000
set_option linter.unusedSimpArgs false
set_option linter.unusedVariables false

/-- The list's cell set. -/
theorem Dn.set {w : World} {d : Nat} {n : Int} {base : Nat} {v0 v : Value} {l : List MsG} (hb : w.heap[d]? = some (.cells #[.int .i64 n, v0] 80 (0, 0))) (ho : OwG w base v l) (lo : ∀ m ∈ l, 1 ≤ m.bs.length) (hi : ∀ m ∈ l, m.bs.length ≤ 8192) :
    Dn (w.setCell ⟨d, 1, none⟩ v) d n base v l ∧ Kept w (w.setCell ⟨d, 1, none⟩ v) (fun k => k = d) := by
  have hks : Kept w (w.setCell ⟨d, 1, none⟩ v) (fun k => k = d) := (Kept.refl w _).setCell _ _ (fun _ => rfl)
  refine ⟨⟨?_, ⟨rowKl ho.row hks (fun g hg e => ?_), fun m hm => Owns.kept (ho.own m hm) hks (fun k hk e => ?_)⟩, lo, hi⟩, hks⟩
  · rw [setCell_eq_setRow w d 1 _ _ _ _ hb, setRow_heap w d _ _ _ _ hb]; rfl
  · subst e; obtain ⟨cs, e'⟩ := rowTl ho.row hg; rw [hb] at e'; simp at e'
  · subst e; obtain ⟨cs, e'⟩ := rowTl (ho.own m hm) hk; rw [hb] at e'; simp at e'

/-- One more message behind a list that is new, put into the net. -/
theorem dn_put {w w6 : World} {d : Nat} {n : Int} {base O : Nat} {v v4 : Value} {l l4 : List MsG} {x : MsG} (h : Dn w d n base v l) (hbase : base ≤ w.heap.size) (b6 : Below w.heap.size w w6) (h4 : OwG w6 w.heap.size v4 l4) (hal : AlikeG l l4) (hx : Owns w6 w.heap.size x.v x.bs) (hO : w6.heap[O]? = some (.cells x.cells.toArray 72 (0, 0))) (hl : l.length ≤ 100000000) (h1 : 1 ≤ x.bs.length) (h2 : x.bs.length ≤ 8192) :
    ∃ ao c w7, (∀ ty, (Builtin.append_ #[35, 35] ty #[v4, .slice (some ⟨O, 0, none⟩) 1 1]).run Tryd.prog w6 = .ok (.slice ao (l4.length + 1) c) w7) ∧ w7.cell? ⟨d, 1, none⟩ = some v ∧ w7.frozen? ⟨d, 1, none⟩ = false ∧ d < w7.heap.size ∧ Dn (w7.setCell ⟨d, 1, none⟩ (.slice ao (l4.length + 1) c)) d n base (.slice ao (l4.length + 1) c) (l4 ++ [x]) ∧ Kept w (w7.setCell ⟨d, 1, none⟩ (.slice ao (l4.length + 1) c)) (fun k => k = d) ∧ (∀ k, FdN d (.slice ao (l4.length + 1) c) (l4 ++ [x]) k → k = d ∨ w.heap.size ≤ k) := by
  have hll := hal.1
  obtain ⟨v7, w7, hr, ho7, hk7, _⟩ := app_g (x := x) (fun u hu => by
    simp only [MsG.cells, List.mem_cons, List.not_mem_nil, or_false] at hu
    rcases hu with rfl | rfl | rfl | rfl
    · rfl
    · rfl
    · exact cell_sees (Sees.own hx)
    · rfl) h4.row hO (by omega) b6.size
  obtain ⟨a7, c7, rfl⟩ := rowSl ho7
  have eN : (l4 ++ [x]).length = l4.length + 1 := by simp
  rw [← eN]
  have hd : d < w.heap.size := lt_of_block h.hb
  have hb7 : w7.heap[d]? = some (.cells #[.int .i64 n, v] 80 (0, 0)) := hk7.heap (boxL h.hb b6) (fun e => by have := (h4.row.lt d e).1; omega)
  have hown : ∀ m ∈ l4 ++ [x], Owns w7 w.heap.size m.v m.bs := fun m hm => by
    rcases List.mem_append.1 hm with hm | hm
    · exact Owns.kept (h4.own m hm) hk7 (fun k e => h4.ne hm e)
    · simp at hm; subst hm
      refine Owns.kept hx hk7 (fun k e e2 => ?_)
      obtain ⟨cs, e1⟩ := rowTl h4.row e2
      obtain ⟨cs', e3⟩ := rowTl hx e
      rw [e1] at e3; simp at e3
  have hlo : ∀ m ∈ l4 ++ [x], 1 ≤ m.bs.length ∧ m.bs.length ≤ 8192 := fun m hm => by
    rcases List.mem_append.1 hm with hm | hm
    · obtain ⟨i, hi⟩ := List.getElem?_of_mem hm
      have hil : i < l.length := by have := (List.getElem?_eq_some_iff.1 hi).1; omega
      have e := (hal.2 i _ m (List.getElem?_eq_getElem hil) hi).2.2.1
      have hm0 := List.getElem_mem hil
      rw [← e]
      exact ⟨h.lo _ hm0, h.hi _ hm0⟩
    · simp at hm; subst hm; exact ⟨h1, h2⟩
  obtain ⟨q1, q2⟩ := Dn.set (base := base) hb7 ⟨row_lowerl ho7 hbase, fun m hm => row_lowerl (hown m hm) hbase⟩ (fun m hm => (hlo m hm).1) (fun m hm => (hlo m hm).2)
  refine ⟨a7, c7, w7, hr, by rw [cell_of_row _ _ _ _ _ _ hb7]; rfl, frozen_of_row _ _ _ _ _ hb7, lt_of_block hb7, q1, ?_, ?_⟩
  · exact (((Below.kept b6).mono (S' := fun k => k = d) (fun k h1 h2 => by omega)).trans hk7 (fun k hk e => by have := (h4.row.lt k e).1; omega)).trans q2 (fun _ _ e => e)
  · intro k hk
    rcases hk with e | e | ⟨m, hm, e⟩
    · exact .inl e
    · exact .inr (ho7.lt k e).1
    · exact .inr ((hown m hm).lt k e).1

set_option maxHeartbeats 4000000 in
theorem rSend_yes {w : World} {d : Nat} {n : Int} {base : Nat} {v : Value} {l : List MsG} (h : Dn w d n base v l) (hbase : base ≤ w.heap.size) (f t : Int) (f0 : -128 ≤ f) (f1 : f ≤ 127) (t0 : -128 ≤ t) (t1 : t ≤ 127) (ao : Option Addr) (cap : Nat) (xs : List Int) (hs : Sees w (.slice ao xs.length cap) xs) (hl : l.length ≤ 100000000) (hk : okS n f t xs.length = true) :
    Calls Tryd.prog 17 #[.pointer (some ⟨d, 0, none⟩), .int .i8 f, .int .i8 t, .slice ao xs.length cap] w fun e w' => e = .returned (.int .i64 0) ∧ ∃ v' l4 x, Dn w' d n base v' (l4 ++ [x]) ∧ AlikeG l l4 ∧ (x.f = f ∧ x.t = t ∧ x.bs = xs ∧ x.sp = false) ∧ Kept w w' (fun k => k = d) ∧ (∀ k, FdN d v' (l4 ++ [x]) k → k = d ∨ w.heap.size ≤ k) := by
  have c0 := h.c0
  obtain ⟨va, vc, hv⟩ := rowSl h.ow.row
  have c1 := h.c1
  rw [hv] at c1
  have hz := lt_of_block h.hb
  have w1 : IntKind.i64.wrap f = f := by rw [IntKind.wrap_i64]; omega
  have w2 : IntKind.i64.wrap t = t := by rw [IntKind.wrap_i64]; omega
  unfold okS hasL at hk
  simp only [Bool.and_eq_true, decide_eq_true_eq] at hk
  obtain ⟨⟨⟨⟨⟨a1, a2⟩, a3, a4⟩, a5⟩, a6⟩, a7⟩ := hk
  have d1 : decide (f < 0) = false := decide_eq_false (by omega)
  have d2 : decide (t < 0) = false := decide_eq_false (by omega)
  have d3 : decide (n ≤ f) = false := decide_eq_false (by omega)
  have d4 : decide (n ≤ t) = false := decide_eq_false (by omega)
  have d5 : (f == t) = false := by simpa using a5
  have d6 : ((xs.length : Int) == 0) = false := by simp; intro e; subst e; simp at a6
  have d7 : decide ((8192 : Int) < (xs.length : Int)) = false := decide_eq_false (by omega)
  have HC : Hid (Calls Tryd.prog 54 #[.slice va l.length vc] w fun e w' => ∃ v' l', e = .returned v' ∧ OwG w' w.heap.size v' l' ∧ AlikeG l l' ∧ Below w.heap.size w w') := by rw [← hv]; exact copyMs_any h.ow.sees hl h.hi
  have HD : Hid (Dn w d n base v l ∧ Sees w (.slice ao xs.length cap) xs ∧ 1 ≤ xs.length ∧ xs.length ≤ 8192 ∧ v = .slice va l.length vc) := ⟨h, hs, a6, a7, hv⟩
  clear h hs hv a1 a2 a3 a4 a5 a6 a7
  go_enter Tryd.func17, Tryd.ntmps17
  go_wp2_with fail
  refine Calls.mono HC.out ?_
  rintro _ w4 ⟨v4, l4, rfl, h4, hal, b4⟩
  obtain ⟨x4, c4, rfl⟩ := rowSl h4.row
  have H4 : Hid (OwG w4 w.heap.size (.slice x4 l4.length c4) l4 ∧ AlikeG l l4 ∧ Below w.heap.size w w4) := ⟨h4, hal, b4⟩
  clear h4 hal b4 HC
  go_wp2_with fail
  refine Calls.mono (copyBytes_any _ xs w4 (HD.out.2.1.below H4.out.2.2 (Nat.le_refl _)) (by have := HD.out.2.2.2.1; omega)) ?_
  rintro _ w5 ⟨v5, rfl, ho5, b5⟩
  obtain ⟨x5, c5, rfl⟩ := rowSl ho5
  obtain ⟨w6, hw6⟩ : ∃ w6, w6 = w5.alloc (.cells #[.int .i8 f, .int .i8 t, .slice x5 xs.length c5, .bool false] 72) := ⟨_, rfl⟩
  have o6 := oneL w5 (.cells #[.int .i8 f, .int .i8 t, .slice x5 xs.length c5, .bool false] 72)
  have hO := heap_alloc_new w5 (.cells #[.int .i8 f, .int .i8 t, .slice x5 xs.length c5, .bool false] 72)
  rw [← hw6] at o6 hO
  have hw4 := H4.out.2.2.size
  have b6 : Below w.heap.size w w6 := H4.out.2.2.trans ((b5.mono hw4).trans (o6.mono (Nat.le_trans hw4 b5.size)))
  have b46 : Below w4.heap.size w4 w6 := b5.trans (o6.mono b5.size)
  obtain ⟨a7, c7, w7, hr, q1, q2, q3, q4, q5, q6⟩ := dn_put (x := ⟨f, t, .slice x5 xs.length c5, xs, false⟩) HD.out.1 hbase b6 ⟨rowKl H4.out.1.row (Below.kept b46) (fun g hg => by have := (H4.out.1.row.lt g hg).2; omega), fun m hm => Owns.kept (H4.out.1.own m hm) (Below.kept b46) (fun k e => by have := ((H4.out.1.own m hm).lt k e).2; omega)⟩ H4.out.2.1 (Owns.kept (row_lowerl ho5 hw4) (Below.kept o6) (fun k e => by have := (ho5.lt k e).2; omega)) hO hl HD.out.2.2.1 HD.out.2.2.2.1
  rw [HD.out.2.2.2.2] at q1
  have HE : Hid (Dn (w7.setCell ⟨d, 1, none⟩ (.slice a7 (l4.length + 1) c7)) d n base (.slice a7 (l4.length + 1) c7) (l4 ++ [⟨f, t, .slice x5 xs.length c5, xs, false⟩]) ∧ AlikeG l l4 ∧ Kept w (w7.setCell ⟨d, 1, none⟩ (.slice a7 (l4.length + 1) c7)) (fun k => k = d) ∧ (∀ k, FdN d (.slice a7 (l4.length + 1) c7) (l4 ++ [⟨f, t, .slice x5 xs.length c5, xs, false⟩]) k → k = d ∨ w.heap.size ≤ k)) := ⟨q4, H4.out.2.1, q5, q6⟩
  have HW6 : Hid (w6 = w5.alloc (.cells #[.int .i8 f, .int .i8 t, .slice x5 xs.length c5, .bool false] 72)) := hw6
  rw [hw6] at hr
  have hO5 : w6.heap.size = w6.heap.size := rfl
  clear q4 q5 q6 ho5 b5 o6 hO b6 b46 hw6 hw4 H4 hO5
  go_wp2_with (at_builtin; refine wpList_appM _ rfl _ _ 35 rfl _ _ rfl rfl (hr _) ?_)
  all_goals (go_ret; exact ⟨rfl, _, _, _, HE.out.1, HE.out.2.1, ⟨rfl, rfl, rfl, rfl⟩, HE.out.2.2.1, HE.out.2.2.2⟩)
end Go.Proofs.YtghngopclhhoeaaDoor
