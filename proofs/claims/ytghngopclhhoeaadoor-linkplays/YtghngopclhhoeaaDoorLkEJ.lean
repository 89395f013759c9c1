/- What with does: the message at a place, where there is one, handed to a function. -/
import Derived.Test.YtghngopclhhoeaaDoorLkDJ
import Derived.Laws.ResultCell
namespace Go.Proofs.YtghngopclhhoeaaDoor
open Go.RowKit
set_option maxRecDepth 8000
set_option linter.unusedSimpArgs false
set_option linter.unusedVariables false

/-- There is none at the place. -/
theorem with_no {w : World} {b : Nat} {n : Int} {v : Value} {l : List MsD} (h : Nt w b n v l) (p : Int) (hp : p < 0 ∨ (l.length : Int) ≤ p) (u : Value) :
    Calls Tryd.prog 51 #[.pointer (some ⟨b, 0, none⟩), .int .i64 p, u] w fun e w' => e = .returned (.int .i64 220) ∧ ∃ k, w' = w.drewN k := by
  obtain ⟨ao, cap, rfl⟩ := rowSl h.ho
  have c1 := h.c1
  have hz := lt_of_block h.hb
  have c0 := h.c0
  have dn : (n == 0) = false := by have := h.n1; simp; omega
  clear h
  by_cases q : p < 0
  · have d1 : decide (p < 0) = true := by simp; omega
    go_enter Tryd.func51, Tryd.ntmps51
    go_wp2
    all_goals (go_ret; exact ⟨rfl, 0, rfl⟩)
  · have d1 : decide (p < 0) = false := by simp; omega
    have d2 : decide ((l.length : Int) ≤ p) = true := by simp; omega
    go_enter Tryd.func51, Tryd.ntmps51
    go_wp2
    all_goals (go_ret; exact ⟨rfl, 0, rfl⟩)

/-- There is one: the function is called with it. -/
theorem with_yes {w : World} {b g cap : Nat} {n : Int} {l : List MsD} (h : Nt w b n (.slice (some ⟨g, 0, none⟩) l.length cap) l) (p : Nat) (hp : p < l.length) (fn : Nat) (first caps : Array Value) {x : Int} {R : World → Prop}
    (hcf : ∀ args w, (callFunc fn args).run Tryd.prog w = .ok (.enter fn args) w)
    (hC : Calls Tryd.prog fn (first.push (.pointer (some ⟨g, p * 4, none⟩)) ++ caps) w fun e w' => e = .returned (.int .i64 x) ∧ R w') :
    Calls Tryd.prog 51 #[.pointer (some ⟨b, 0, none⟩), .int .i64 (p : Nat), .func (.func fn) first caps] w fun e w' => e = .returned (.int .i64 x) ∧ R w' := by
  have c1 := h.c1
  have hz := lt_of_block h.hb
  have c0 := h.c0
  have dn : (n == 0) = false := by have := h.n1; simp; omega
  clear h
  have d1 : decide ((p : Int) < 0) = false := decide_eq_false (by omega)
  have d2 : decide ((l.length : Int) ≤ (p : Int)) = false := decide_eq_false (by omega)
  have HC : Hid (Calls Tryd.prog fn (first.push (.pointer (some ⟨g, p * 4, none⟩)) ++ caps) w fun e w' => e = .returned (.int .i64 x) ∧ R w') := hC
  clear hC
  go_enter Tryd.func51, Tryd.ntmps51
  go_wp2
  refine HC.out.mono ?_
  rintro _ w2 ⟨rfl, hR⟩
  have HR : Hid (R w2) := hR
  clear hR HC
  go_wp2
  all_goals (go_ret; exact ⟨rfl, HR.out⟩)

set_option maxHeartbeats 1000000 in
/-- The n-th message taken out by Take's function. -/
theorem take1_any {w : World} {b : Nat} {n : Int} {v : Value} {A B : List MsD} {x : MsD} {g off tk pn pp : Nat} (h : Nt w b n v (A ++ x :: B)) (hl : (A ++ x :: B).length ≤ 100000000) (hat : MsAt w g off x) (ht : w.heap[tk]? = some (.cells #[.int .i8 0, .int .i8 0, .slice none 0 0, .bool false] 72 (0, 0)))
    (h1 : w.heap[pn]? = some (.cells #[.pointer (some ⟨b, 0, none⟩)] 28 (0, 0))) (h2 : w.heap[pp]? = some (.cells #[.int .i64 (A.length : Nat)] 3 (0, 0))) (hf2 : v.ownBlock ≠ some tk) :
    Calls Tryd.prog 52 #[.pointer (some ⟨g, off, none⟩), .pointer (some ⟨tk, 0, none⟩), .pointer (some ⟨pn, 0, none⟩), .pointer (some ⟨pp, 0, none⟩)] w fun e w' => e = .returned (.int .i64 0) ∧ ∃ v', Nt w' b n v' (A ++ B) ∧ Kept w w' (fun k => k = tk ∨ k = b ∨ v.ownBlock = some k) ∧ v'.ownBlock = v.ownBlock ∧ w'.heap[tk]? = some (.cells x.cs.toArray 72 (0, 0)) := by
  obtain ⟨p0, p1, p2, p3⟩ := hat
  have hz := World.block_lt_of_cell? w _ p0
  have hzt := lt_of_block ht
  have t0 := cell_of_row w tk 0 _ _ _ ht
  have t1 := cell_of_row w tk 1 _ _ _ ht
  have t2 := cell_of_row w tk 2 _ _ _ ht
  have t3 := cell_of_row w tk 3 _ _ _ ht
  simp only [List.getElem?_toArray, List.getElem?_cons_zero, List.getElem?_cons_succ] at t0 t1 t2 t3
  have f0 := fun j => frozen_of_row w tk j _ _ ht
  obtain ⟨W4, hW4⟩ : ∃ W4, W4 = (((w.setCell ⟨tk, 0, none⟩ (.int .i8 x.f)).setCell ⟨tk, 1, none⟩ (.int .i8 x.t)).setCell ⟨tk, 2, none⟩ (.slice (some ⟨x.g, x.off, none⟩) x.bs.length x.c)).setCell ⟨tk, 3, none⟩ (.bool x.sp) := ⟨_, rfl⟩
  obtain ⟨hS4, hK4⟩ : W4.heap[tk]? = some (.cells x.cs.toArray 72 (0, 0)) ∧ Kept w W4 (· = tk) := by
    rw [hW4]
    exact set4L (V := w) (O := tk) (k := 0) (A := []) (Y := []) ht rfl (.int .i8 x.f) (.int .i8 x.t) x.v (.bool x.sp)
  have n1 : pn ≠ tk := fun e => by subst e; rw [h1] at ht; simp at ht
  have n2 : pp ≠ tk := fun e => by subst e; rw [h2] at ht; simp at ht
  have hnt : ∀ k, Fn b v (A ++ x :: B) k → k ≠ tk := fun k hk e => by
    subst e
    rcases hk with rfl | hk | ⟨m, hm, rfl⟩
    · rw [h.hb] at ht; simp at ht
    · exact hf2 hk
    · obtain ⟨cs, e'⟩ := rowTl (h.hm m hm).ow rfl; rw [e'] at ht; simp at ht
  have u1 := cell_of_row W4 pn 0 _ _ _ (hK4.heap h1 n1)
  have u2 := cell_of_row W4 pp 0 _ _ _ (hK4.heap h2 n2)
  have HM : Hid (Calls Tryd.prog 53 #[.pointer (some ⟨b, 0, none⟩), .int .i64 (A.length : Nat)] W4 fun e w' => e = .returned (.tuple #[]) ∧ ∃ v', Nt w' b n v' (A ++ B) ∧ Kept w w' (fun k => k = tk ∨ k = b ∨ v.ownBlock = some k) ∧ v'.ownBlock = v.ownBlock ∧ w'.heap[tk]? = some (.cells x.cs.toArray 72 (0, 0))) := by
    refine Calls.mono (moveUp_any (h.kept hK4 hnt) hl) ?_
    rintro _ w2 ⟨rfl, v', q1, q2, q3⟩
    exact ⟨rfl, v', q1, (hK4.mono (S' := fun k => k = tk ∨ k = b ∨ v.ownBlock = some k) (fun _ _ e => .inl e)).trans q2 (fun _ _ e => .inr e), q3, q2.heap hS4 (fun e => e.elim (fun e => hnt b (.inl rfl) e.symm) hf2)⟩
  clear h hnt hS4 hK4 ht h1 h2
  go_enter Tryd.func52, Tryd.ntmps52
  go_upto_region 2 with fail
  rw [← hW4]
  clear hW4 t0 t1 t2 t3 f0 p0 p1 p2 p3 hz hzt
  go_wp2_with fail
  refine HM.out.mono ?_
  rintro _ w2 ⟨rfl, hE⟩
  have HE : Hid _ := hE
  clear hE HM
  go_wp2
  all_goals (go_ret; exact ⟨rfl, HE.out⟩)

theorem fn_take (args : Array Value) (w : World) : (callFunc 52 args).run Tryd.prog w = .ok (.enter 52 args) w := rfl

theorem four_allocL (w : World) (a b c d : Obj) : Below w.heap.size w ((((w.alloc a).alloc b).alloc c).alloc d) ∧ ((((w.alloc a).alloc b).alloc c).alloc d).heap[w.heap.size]? = some a ∧ ((((w.alloc a).alloc b).alloc c).alloc d).heap[w.heap.size + 1]? = some b ∧ ((((w.alloc a).alloc b).alloc c).alloc d).heap[w.heap.size + 1 + 1]? = some c ∧ ((((w.alloc a).alloc b).alloc c).alloc d).heap[w.heap.size + 1 + 1 + 1]? = some d ∧ ((((w.alloc a).alloc b).alloc c).alloc d).heap.size = w.heap.size + 4 := by
  have b1 := oneL w a
  have b2 := oneL (w.alloc a) b
  have b3 := oneL ((w.alloc a).alloc b) c
  have b4 := oneL (((w.alloc a).alloc b).alloc c) d
  have s1 : (w.alloc a).heap.size = w.heap.size + 1 := World.size_alloc _ _
  have s2 : ((w.alloc a).alloc b).heap.size = w.heap.size + 1 + 1 := by rw [World.size_alloc, s1]
  have s3 : (((w.alloc a).alloc b).alloc c).heap.size = w.heap.size + 1 + 1 + 1 := by rw [World.size_alloc, s2]
  have s4 : ((((w.alloc a).alloc b).alloc c).alloc d).heap.size = w.heap.size + 4 := by rw [World.size_alloc, s3]
  have h1 := heap_alloc_new w a
  have h2 := heap_alloc_new (w.alloc a) b
  have h3 := heap_alloc_new ((w.alloc a).alloc b) c
  have h4 := heap_alloc_new (((w.alloc a).alloc b).alloc c) d
  rw [s1] at h2
  rw [s2] at h3
  rw [s3] at h4
  exact ⟨((b1.trans (b2.mono (by omega))).trans (b3.mono (by omega))).trans (b4.mono (by omega)), boxL (boxL (boxL h1 b2) b3) b4, boxL (boxL h2 b3) b4, boxL h3 b4, h4, s4⟩

theorem Tryd.msSz : (Tryd.prog.info? 72).map (·.size) = some 4 := by kernel_rfl
/-- What Take answers. -/
theorem ms_ret {fn : Func} {p u : Tmp} (h : fn.results = #[.cell p 72, .tmp u]) (tmps : Array Value) (w : World) (b : Nat) (cs : Array Value) (x : Value) (t : TypeId) (fr : Nat × Nat) (hp : tmps.getD p undef = .pointer (some ⟨b, 0, none⟩)) (hu : tmps.getD u undef = x) (hrow : w.heap[b]? = some (.cells cs t fr)) (hs : cs.size = 4) : (results fn tmps).run Tryd.prog w = .ok (.tuple #[.agg cs, x]) w := by
  rw [results_cell_tmp h, hp, hu]
  have hld := run_loadVar_row (P := Tryd.prog) w b t 72 cs fr _ hrow Tryd.underlying72 rfl (by rw [hs]; exact Tryd.msSz)
  simp only [asAddr, Sem.run_pure, Result.andThen_ok, hld]

set_option maxHeartbeats 2000000 in
/-- Take of a place where there is one. -/
theorem take_yes {w : World} {b : Nat} {n : Int} {v : Value} {A B : List MsD} {x : MsD} (h : Nt w b n v (A ++ x :: B)) (hl : (A ++ x :: B).length ≤ 100000000) :
    Calls Tryd.prog 13 #[.pointer (some ⟨b, 0, none⟩), .int .i64 (A.length : Nat)] w fun e w' => e = .returned (.tuple #[.agg x.cs.toArray, .int .i64 0]) ∧ ∃ v', Nt w' b n v' (A ++ B) ∧ Kept w w' (fun k => k = b ∨ v.ownBlock = some k) ∧ v'.ownBlock = v.ownBlock ∧ MsOk w' x := by
  obtain ⟨ao, cap, rfl⟩ := rowSl h.ho
  obtain ⟨g, rfl⟩ : ∃ g, ao = some ⟨g, 0, none⟩ := by
    obtain ⟨_, ⟨e, h0⟩ | ⟨g, c, cur, e, _⟩⟩ := h.ho
    · simp at h0
    · simp only [Value.slice.injEq] at e; exact ⟨g, e.1⟩
  obtain ⟨f1, f2, f3, f4, f5, f6⟩ := four_allocL w (.cells #[.pointer (some ⟨b, 0, none⟩)] 28) (.cells #[.int .i64 (A.length : Nat)] 3) (.cells #[.int .i8 0, .int .i8 0, .slice none 0 0, .bool false] 72) (.cells #[.int .i8 0, .int .i8 0, .slice none 0 0, .bool false] 72)
  have h4 := h.below f1
  have hgl : g < w.heap.size := h.lt (.inr (.inl rfl))
  have hbl : b < w.heap.size := lt_of_block h.hb
  have hsm := h4.sm
  obtain ⟨_, _, e, _, _, hat⟩ := hsm
  obtain ⟨gb, off, eo, hcs⟩ := hat (by simp)
  simp only [Value.slice.injEq] at e
  rw [← e.1] at eo
  simp only [Option.some.injEq, Addr.mk.injEq, and_true] at eo
  obtain ⟨rfl, rfl⟩ := eo
  have hx4 := hcs A.length x (by rw [List.getElem?_append_right (Nat.le_refl _), Nat.sub_self]; rfl)
  rw [Nat.zero_add] at hx4
  have hW := with_yes h4 A.length (by simp) 52 #[] #[.pointer (some ⟨w.heap.size + 1 + 1 + 1, 0, none⟩), .pointer (some ⟨w.heap.size, 0, none⟩), .pointer (some ⟨w.heap.size + 1, 0, none⟩)] fn_take (take1_any h4 hl hx4 f5 f2 f3 (fun e => by simp [Value.ownBlock] at e; omega))
  have HW : Hid _ := hW
  have HH : Hid (Nt w b n (.slice (some ⟨g, 0, none⟩) (A ++ x :: B).length cap) (A ++ x :: B) ∧ Below w.heap.size w ((((w.alloc (.cells #[.pointer (some ⟨b, 0, none⟩)] 28)).alloc (.cells #[.int .i64 (A.length : Nat)] 3)).alloc (.cells #[.int .i8 0, .int .i8 0, .slice none 0 0, .bool false] 72)).alloc (.cells #[.int .i8 0, .int .i8 0, .slice none 0 0, .bool false] 72)) ∧ ((((w.alloc (.cells #[.pointer (some ⟨b, 0, none⟩)] 28)).alloc (.cells #[.int .i64 (A.length : Nat)] 3)).alloc (.cells #[.int .i8 0, .int .i8 0, .slice none 0 0, .bool false] 72)).alloc (.cells #[.int .i8 0, .int .i8 0, .slice none 0 0, .bool false] 72)).heap[w.heap.size + 1 + 1]? = some (.cells #[.int .i8 0, .int .i8 0, .slice none 0 0, .bool false] 72 (0, 0))) := ⟨h, f1, f4⟩
  clear hW h h4 hcs hx4 hat f1 f2 f3 f4 f5 f6 e
  go_enter Tryd.func13, Tryd.ntmps13
  go_wp2_with fail
  refine Calls.mono HW.out ?_
  rintro _ w2 ⟨rfl, v', q1, q2, q3, q4⟩
  obtain ⟨g1, g2, g3⟩ := HH.out
  have hrr := q2.heap g3 (by intro e; simp [Value.ownBlock] at e; omega)
  have f0 := fun j => frozen_of_row w2 (w.heap.size + 1 + 1) j _ _ hrr
  have hzr := lt_of_block hrr
  have t0 := cell_of_row w2 (w.heap.size + 1 + 1 + 1) 0 _ _ _ q4
  have t1 := cell_of_row w2 (w.heap.size + 1 + 1 + 1) 1 _ _ _ q4
  have t2 := cell_of_row w2 (w.heap.size + 1 + 1 + 1) 2 _ _ _ q4
  have t3 := cell_of_row w2 (w.heap.size + 1 + 1 + 1) 3 _ _ _ q4
  simp only [List.getElem?_toArray, List.getElem?_cons_zero, List.getElem?_cons_succ] at t0 t1 t2 t3
  have r0 := cell_of_row w2 (w.heap.size + 1 + 1) 0 _ _ _ hrr
  have r1 := cell_of_row w2 (w.heap.size + 1 + 1) 1 _ _ _ hrr
  have r2 := cell_of_row w2 (w.heap.size + 1 + 1) 2 _ _ _ hrr
  have r3 := cell_of_row w2 (w.heap.size + 1 + 1) 3 _ _ _ hrr
  obtain ⟨hS, hK⟩ := set4L (V := w2) (O := w.heap.size + 1 + 1) (k := 0) (A := []) (Y := []) hrr rfl (.int .i8 x.f) (.int .i8 x.t) x.v (.bool x.sp)
  have HE : Hid (∃ w', w' = (((w2.setCell ⟨w.heap.size + 1 + 1, 0, none⟩ (.int .i8 x.f)).setCell ⟨w.heap.size + 1 + 1, 1, none⟩ (.int .i8 x.t)).setCell ⟨w.heap.size + 1 + 1, 2, none⟩ (.slice (some ⟨x.g, x.off, none⟩) x.bs.length x.c)).setCell ⟨w.heap.size + 1 + 1, 3, none⟩ (.bool x.sp) ∧ w'.heap[w.heap.size + 1 + 1]? = some (.cells x.cs.toArray 72 (0, 0)) ∧ ∃ v', Nt w' b n v' (A ++ B) ∧ Kept w w' (fun k => k = b ∨ (Value.slice (some ⟨g, 0, none⟩) (A ++ x :: B).length cap).ownBlock = some k) ∧ v'.ownBlock = (Value.slice (some ⟨g, 0, none⟩) (A ++ x :: B).length cap).ownBlock ∧ MsOk w' x) := by
    have hfr : ∀ k, Fn b v' (A ++ B) k → k ≠ w.heap.size + 1 + 1 := fun k hk e => by
      subst e
      rcases hk with e | e | ⟨m, hm, e⟩
      · omega
      · rw [q3] at e; simp [Value.ownBlock] at e; omega
      · have hm' : m ∈ A ++ x :: B := by
          rcases List.mem_append.1 hm with hm | hm
          · exact List.mem_append_left _ hm
          · exact List.mem_append_right _ (List.mem_cons_of_mem _ hm)
        have := (g1.hm m hm').lt
        omega
    have k1 : Kept w w2 (fun k => k = b ∨ (Value.slice (some ⟨g, 0, none⟩) (A ++ x :: B).length cap).ownBlock = some k) := ((Below.kept g2).mono (S' := fun k => k = b ∨ (Value.slice (some ⟨g, 0, none⟩) (A ++ x :: B).length cap).ownBlock = some k) (fun k h1 h2 => by omega)).trans q2 (fun k hk e => by
      rcases e with e | e | e
      · omega
      · exact .inl e
      · exact .inr e)
    have k2 := k1.trans (hK.mono (S' := fun k => w2.heap.size ≤ k ∨ k = w.heap.size + 1 + 1) (fun _ _ e => .inr e)) (fun k hk e => by
      rcases e with e | e
      · have := k1.size; omega
      · omega)
    have hxg := (g1.hm x (by simp))
    exact ⟨_, rfl, hS, v', q1.kept hK (fun k hk e => hfr k hk e), k2, q3, hxg.kept k2 (fun e => e.elim (g1.ne.2.1 x (by simp)) (g1.ne.2.2 x (by simp)))⟩
  clear HW HH hS hK q1 q2 q3 q4 g1 g2 g3 hrr
  go_wp2
  obtain ⟨w', e, hr, hE⟩ := HE.out
  rw [← e]
  exact bodyPost_ret (ms_ret Tryd.results13 _ _ _ _ _ _ _ rfl rfl hr rfl) rfl ⟨rfl, hE⟩

end Go.Proofs.YtghngopclhhoeaaDoor
