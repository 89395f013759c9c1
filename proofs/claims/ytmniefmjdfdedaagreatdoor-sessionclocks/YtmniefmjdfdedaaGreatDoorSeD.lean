/- What Touch, Due, Remove of a clock answer; and all calls of a nil clock and of a plain one. -/
import Derived.Test.YtmniefmjdfdedaaGreatDoorSeC
namespace Go.Proofs.YtmniefmjdfdedaaGreatDoor
open Go.RowKit Go.Shelf
set_option maxRecDepth 8000
set_option linter.unusedSimpArgs false

theorem lookV_some {l : List LfT} {id : Int} {y : LfT} (h : getL l id = some y) : lookV l id = y := by unfold lookV; rw [h]; rfl
theorem getL_mem {l : List LfT} {id : Int} {y : LfT} (h : getL l id = some y) : y ∈ l ∧ y.1 = id := by
  unfold getL at h
  exact ⟨List.mem_of_find?_eq_some h, by have := List.find?_some h; simpa using this⟩

set_option maxHeartbeats 1000000 in
theorem touch_yes {w : World} {c m s : Nat} {t span : Int} {l : List LfT} (h : Ck w c m s t span l) (id : Int) (y : LfT) (h1 : 1 ≤ span) (h2 : span ≤ 1000) (h3 : 0 ≤ t) (h4 : t ≤ 4000000000000000000) (hy : getL l id = some y) (h5 : 1 ≤ y.2.1) (h6 : y.2.1 ≤ 1000) :
    Calls Tryz.prog 14 #[.pointer (some ⟨c, 0, none⟩), .int .i64 id] w fun e w' => e = .returned (.int .i64 0) ∧ Ck w' c m s t span (putL l (id, y.2.1, upT (t + y.2.1) span)) ∧ Kept w w' (fun k => k = m) := by
  have HN : Hid _ := isNone_no h
  obtain ⟨y0, tm, y2⟩ := y
  have B1 : Below w.heap.size w (w.alloc (.cells #[.int .i32 tm, .int .i64 y2] 86)) := (Below.refl _ w).alloc (Nat.le_refl _) _
  have HB : Hid (Calls Tryz.prog 28 #[.pointer (some ⟨c, 0, none⟩), .int .i64 id, .int .i32 tm] (w.alloc (.cells #[.int .i32 tm, .int .i64 y2] 86)) fun e w' => e = .returned (.tuple #[]) ∧ Hid (Ck w' c m s t span (putL l (id, tm, upT (t + tm) span)) ∧ Kept w w' (fun k => k = m))) := by
    refine (begin_any (h.below B1) id tm h1 h2 h3 h4 h5 h6).mono (fun e w' hh => ⟨hh.1, hh.2.1, ((Kept.refl w _).alloc _).trans hh.2.2 (fun _ _ q => q)⟩)
  have hlk := look_any h.hm id
  rw [lookV_some hy, hy] at hlk
  have hlk2 : (Instr.lookup 46 (.map (some m)) (.int .i64 id) true).run Tryz.prog w = .ok (.tuple #[.agg #[.int .i32 tm, .int .i64 y2], .bool true]) w := hlk
  have c1 := h.c1
  have hz := lt_of_block h.hc
  clear h hlk h1 h2 h3 h4 h5 h6 B1 hy
  go_enter Tryz.func14, Tryz.ntmps14
  go_wp2_with fail
  refine Calls.mono HN.out ?_
  rintro e w1 ⟨rfl, hw1⟩
  rw [hw1]
  clear hw1 HN
  go_wp2_with fail
  go_at_call 28
  refine Calls.mono HB.out ?_
  rintro e w2 ⟨rfl, HE⟩
  go_wp2
  all_goals (go_ret; exact ⟨rfl, HE.out⟩)

set_option maxHeartbeats 1000000 in
theorem touch_no {w : World} {c m s : Nat} {t span : Int} {l : List LfT} (h : Ck w c m s t span l) (id : Int) (hy : getL l id = none) :
    Calls Tryz.prog 14 #[.pointer (some ⟨c, 0, none⟩), .int .i64 id] w fun e w' => e = .returned (.int .i64 75) ∧ Below w.heap.size w w' := by
  have HN : Hid _ := isNone_no h
  have HB : Hid (Below w.heap.size w (w.alloc (.cells #[.int .i32 0, .int .i64 0] 86))) := (Below.refl _ w).alloc (Nat.le_refl _) _
  have hlk := look_any h.hm id
  rw [show lookV l id = (0, 0, 0) by unfold lookV; rw [hy]; rfl, hy] at hlk
  have hlk2 : (Instr.lookup 46 (.map (some m)) (.int .i64 id) true).run Tryz.prog w = .ok (.tuple #[.agg #[.int .i32 0, .int .i64 0], .bool false]) w := hlk
  have c1 := h.c1
  have hz := lt_of_block h.hc
  clear h hlk hy
  go_enter Tryz.func14, Tryz.ntmps14
  go_wp2_with fail
  refine Calls.mono HN.out ?_
  rintro e w1 ⟨rfl, hw1⟩
  rw [hw1]
  clear hw1 HN
  go_wp2
  all_goals (go_ret; exact ⟨rfl, HB.out⟩)

set_option maxHeartbeats 1000000 in
theorem due_any {w : World} {c m s : Nat} {t span : Int} {l : List LfT} (h : Ck w c m s t span l) (id : Int) :
    Calls Tryz.prog 21 #[.pointer (some ⟨c, 0, none⟩), .int .i64 id] w fun e w' => e = .returned (.tuple #[.int .i64 (lookV l id).2.2, .bool (getL l id).isSome]) ∧ Below w.heap.size w w' := by
  have HN : Hid _ := isNone_no h
  have hlk := look_any h.hm id
  obtain ⟨y, hy⟩ : ∃ y, y = lookV l id := ⟨_, rfl⟩
  rw [← hy] at hlk ⊢
  obtain ⟨y0, tm, y2⟩ := y
  have hlk2 : (Instr.lookup 46 (.map (some m)) (.int .i64 id) true).run Tryz.prog w = .ok (.tuple #[.agg #[.int .i32 tm, .int .i64 y2], .bool (getL l id).isSome]) w := hlk
  have HB : Hid (Below w.heap.size w (w.alloc (.cells #[.int .i32 tm, .int .i64 y2] 86))) := (Below.refl _ w).alloc (Nat.le_refl _) _
  have c1 := h.c1
  have hz := lt_of_block h.hc
  clear h hlk hy
  generalize (getL l id).isSome = bb at *
  go_enter Tryz.func21, Tryz.ntmps21
  go_wp2_with fail
  refine Calls.mono HN.out ?_
  rintro e w1 ⟨rfl, hw1⟩
  rw [hw1]
  clear hw1 HN
  go_wp2
  all_goals (go_ret2; exact ⟨rfl, HB.out⟩)

/-- The sessions without one. -/
def remL (l : List LfT) (id : Int) : List LfT := l.filter (fun x => !(x.1 == id))
theorem remL_none {l : List LfT} {id : Int} (h : id ∉ ids l) : remL l id = l := by
  unfold remL
  refine List.filter_eq_self.2 (fun x hx => ?_)
  simp only [Bool.not_eq_true', beq_eq_false_iff_ne, ne_eq]
  exact fun e => h (by rw [← e]; exact List.mem_map.2 ⟨x, hx, rfl⟩)
theorem remL_mid {a b : List LfT} {y : LfT} (h : (ids (a ++ y :: b)).Nodup) : remL (a ++ y :: b) y.1 = a ++ b := by
  unfold ids at h
  rw [List.map_append, List.map_cons, List.nodup_append] at h
  obtain ⟨_, h2, h3⟩ := h
  have q1 : remL a y.1 = a := remL_none (fun hm => h3 _ hm _ (by simp) rfl)
  have q2 : remL b y.1 = b := remL_none (List.nodup_cons.1 h2).1
  unfold remL at q1 q2 ⊢
  rw [List.filter_append, List.filter_cons]
  simp [q1, q2]

theorem strike_any {w : World} {m : Nat} {l : List LfT} (h : Mp w m l) (hnd : (ids l).Nodup) (id : Int) :
    ∃ w', (∀ ty, (Builtin.delete_ #[46, 2] ty #[.map (some m), .int .i64 id]).run Tryz.prog w = .ok (.tuple #[]) w') ∧ Mp w' m (remL l id) ∧ Kept w w' (fun k => k = m) := by
  by_cases hx : id ∈ ids l
  · obtain ⟨a, y, b, rfl, e, hn, _⟩ := getL_some hx
    obtain ⟨w', h1, h2, h3⟩ := strike_some 0 h (by rw [e]; exact hn)
    rw [e] at h1
    refine ⟨w', fun ty => h1, ?_, h3⟩
    rw [← e, remL_mid hnd]
    exact h2
  · obtain ⟨w', h1, h2, h3⟩ := strike_none 0 h hx
    exact ⟨w', fun ty => h1, by rw [remL_none hx]; exact h2, h3⟩

set_option maxHeartbeats 1000000 in
theorem remove_any {w : World} {c m s : Nat} {t span : Int} {l : List LfT} (h : Ck w c m s t span l) (id : Int) (hnd : (ids l).Nodup) :
    Calls Tryz.prog 16 #[.pointer (some ⟨c, 0, none⟩), .int .i64 id] w fun e w' => e = .returned (.bool (getL l id).isSome) ∧ Ck w' c m s t span (remL l id) ∧ Kept w w' (fun k => k = m) := by
  have HN : Hid _ := isNone_no h
  have hlk := look_any h.hm id
  obtain ⟨y, hy⟩ : ∃ y, y = lookV l id := ⟨_, rfl⟩
  rw [← hy] at hlk
  obtain ⟨y0, tm, y2⟩ := y
  have hlk2 : (Instr.lookup 46 (.map (some m)) (.int .i64 id) true).run Tryz.prog w = .ok (.tuple #[.agg #[.int .i32 tm, .int .i64 y2], .bool (getL l id).isSome]) w := hlk
  have B1 : Below w.heap.size w (w.alloc (.cells #[.int .i32 tm, .int .i64 y2] 86)) := (Below.refl _ w).alloc (Nat.le_refl _) _
  have h1 := h.below B1
  obtain ⟨w3, hst, hm3, hk3⟩ := strike_any h1.hm hnd id
  have hne := h.ne
  have HE : Hid (Ck w3 c m s t span (remL l id) ∧ Kept w w3 (fun k => k = m)) := ⟨⟨hk3.heap h1.hc hne.1, hk3.heap h1.hs (Ne.symm hne.2.2), hm3⟩, ((Kept.refl w _).alloc _).trans hk3 (fun _ _ q => q)⟩
  have c1 := h.c1
  have hz := lt_of_block h.hc
  clear h hlk hy h1 hm3 hk3 hne B1 hnd
  generalize (getL l id).isSome = bb at *
  go_enter Tryz.func16, Tryz.ntmps16
  go_wp2_with fail
  refine Calls.mono HN.out ?_
  rintro e w1 ⟨rfl, hw1⟩
  rw [hw1]
  clear hw1 HN
  go_wp2
  all_goals (go_ret; exact ⟨rfl, HE.out⟩)

end Go.Proofs.YtmniefmjdfdedaaGreatDoor
