/- A clock in memory; what New, isNone, Now and the closure that puts a tick up to a multiple answer. -/
import Derived.Test.YtmniefmjdfdedaaGreatDoorSeA
import Derived.Test.YtmniefmjdfdedaaGreatDoorBgA
import Derived.BigQuiet
namespace Go.Proofs.YtmniefmjdfdedaaGreatDoor
open Go.RowKit Go.Shelf
set_option maxRecDepth 8000

/-- The closure of a clock. -/
abbrev upF (s : Nat) : Value := .func (.func 12) #[] #[.pointer (some ⟨s, 0, none⟩)]
/-- A clock in memory: its tick, its span, its sessions. -/
structure Ck (w : World) (c m s : Nat) (t span : Int) (l : List LfT) : Prop where
  hc : w.heap[c]? = some (.cells #[.int .i64 t, .map (some m), upF s] 48 (0, 0))
  hs : w.heap[s]? = some (.cells #[.int .i64 span] 3 (0, 0))
  hm : Mp w m l
/-- The blocks of a clock. -/
def FtC (c m s k : Nat) : Prop := k = c ∨ k = m ∨ k = s
/-- The blocks of a clock that its calls may turn. -/
def TuC (c m k : Nat) : Prop := k = c ∨ k = m

theorem Ck.ne {w : World} {c m s : Nat} {t span : Int} {l : List LfT} (h : Ck w c m s t span l) : c ≠ m ∧ c ≠ s ∧ m ≠ s := by
  obtain ⟨es, q, hm, _⟩ := h.hm
  refine ⟨fun e => ?_, fun e => ?_, fun e => ?_⟩
  · subst e; have := h.hc; rw [hm] at this; cases this
  · subst e; have := h.hc; rw [h.hs] at this; simp at this
  · subst e; have := h.hs; rw [hm] at this; cases this
theorem Ck.lt {w : World} {c m s : Nat} {t span : Int} {l : List LfT} (h : Ck w c m s t span l) {k : Nat} (hk : FtC c m s k) : k < w.heap.size := by
  rcases hk with rfl | rfl | rfl
  · exact lt_of_block h.hc
  · exact h.hm.lt
  · exact lt_of_block h.hs
theorem Ck.kept {w w' : World} {S : Nat → Prop} {c m s : Nat} {t span : Int} {l : List LfT} (h : Ck w c m s t span l) (hk : Kept w w' S) (hn : ∀ k, FtC c m s k → ¬ S k) : Ck w' c m s t span l :=
  ⟨hk.heap h.hc (hn c (.inl rfl)), hk.heap h.hs (hn s (.inr (.inr rfl))), h.hm.kept hk (hn m (.inr (.inl rfl)))⟩
theorem Ck.below {w w' : World} {c m s : Nat} {t span : Int} {l : List LfT} (h : Ck w c m s t span l) (hk : Below w.heap.size w w') : Ck w' c m s t span l :=
  h.kept (Below.kept hk) (fun k hf => by have := h.lt hf; omega)
theorem Ck.drewN {w : World} {c m s : Nat} {t span : Int} {l : List LfT} (h : Ck w c m s t span l) (n : Nat) : Ck (w.drewN n) c m s t span l := ⟨h.hc, h.hs, h.hm⟩
theorem Ck.c0 {w : World} {c m s : Nat} {t span : Int} {l : List LfT} (h : Ck w c m s t span l) : w.cell? ⟨c, 0, none⟩ = some (.int .i64 t) := by rw [cell_of_row w c 0 _ _ _ h.hc]; rfl
theorem Ck.c1 {w : World} {c m s : Nat} {t span : Int} {l : List LfT} (h : Ck w c m s t span l) : w.cell? ⟨c, 1, none⟩ = some (.map (some m)) := by rw [cell_of_row w c 1 _ _ _ h.hc]; rfl
theorem Ck.c2 {w : World} {c m s : Nat} {t span : Int} {l : List LfT} (h : Ck w c m s t span l) : w.cell? ⟨c, 2, none⟩ = some (upF s) := by rw [cell_of_row w c 2 _ _ _ h.hc]; rfl
theorem Ck.s0 {w : World} {c m s : Nat} {t span : Int} {l : List LfT} (h : Ck w c m s t span l) : w.cell? ⟨s, 0, none⟩ = some (.int .i64 span) := by rw [cell_of_row w s 0 _ _ _ h.hs]; rfl

theorem new_yes (span : Int) (w : World) (h1 : 1 ≤ span) (h2 : span ≤ 1000) : Calls Tryz.prog 5 #[.int .i64 span] w fun e w' => e = .returned (.tuple #[.pointer (some ⟨w.heap.size + 2, 0, none⟩), .int .i64 0]) ∧ Ck w' (w.heap.size + 2) (w.heap.size + 1) w.heap.size 0 span [] ∧ Below w.heap.size w w' := by
  have hmm := @run_makeMap Tryz.prog
  have d1 : decide (span < 1) = false := by simp; omega
  have d2 : decide (span > 1000) = false := by simp; omega
  have d3 : decide (1000 < span) = false := by simp; omega
  have HB : Hid (Ck (((w.alloc (.cells #[.int .i64 span] 3)).alloc (.map #[] 0)).alloc (.cells #[.int .i64 0, .map (some (w.heap.size + 1)), upF w.heap.size] 48)) (w.heap.size + 2) (w.heap.size + 1) w.heap.size 0 span [] ∧ Below w.heap.size w (((w.alloc (.cells #[.int .i64 span] 3)).alloc (.map #[] 0)).alloc (.cells #[.int .i64 0, .map (some (w.heap.size + 1)), upF w.heap.size] 48))) := by
    refine ⟨⟨?_, ?_, ⟨#[], 0, ?_, rfl, by simp, by simp⟩⟩, (((Below.refl _ w).alloc (Nat.le_refl _) _).alloc (by simp) _).alloc (by simp; omega) _⟩
    · have := heap_alloc_new ((w.alloc (.cells #[.int .i64 span] 3)).alloc (.map #[] 0)) (.cells #[.int .i64 0, .map (some (w.heap.size + 1)), upF w.heap.size] 48 (0, 0)); rwa [World.size_alloc, World.size_alloc] at this
    · rw [Below.heap_alloc _ _ _ (by simp; omega), Below.heap_alloc _ _ _ (by simp)]; exact heap_alloc_new _ _
    · rw [Below.heap_alloc _ _ _ (by simp)]; have := heap_alloc_new (w.alloc (.cells #[.int .i64 span] 3)) (.map #[] 0); rwa [World.size_alloc] at this
  go_enter Tryz.func5, Tryz.ntmps5
  go_wp2
  all_goals (go_ret2; exact ⟨rfl, HB.out⟩)

theorem new_no (span : Int) (w : World) (h : span < 1 ∨ 1000 < span) : Calls Tryz.prog 5 #[.int .i64 span] w fun e w' => e = .returned (.tuple #[.pointer none, .int .i64 1]) ∧ Below w.heap.size w w' := by
  have HB : Hid (Below w.heap.size w (w.alloc (.cells #[.int .i64 span] 3))) := (Below.refl _ w).alloc (Nat.le_refl _) _
  by_cases h1 : span < 1
  · have d1 : decide (span < 1) = true := by simp; omega
    clear h
    go_enter Tryz.func5, Tryz.ntmps5
    go_wp2
    all_goals (go_ret2; exact ⟨rfl, HB.out⟩)
  · have d1 : decide (span < 1) = false := by simp; omega
    have d2 : decide (span > 1000) = true := by simp; omega
    have d3 : decide (1000 < span) = true := by simp; omega
    clear h
    go_enter Tryz.func5, Tryz.ntmps5
    go_wp2
    all_goals (go_ret2; exact ⟨rfl, HB.out⟩)

theorem ptrNil (r : Option Addr) (w : World) : (binOp .eql 27 (.pointer r) (.pointer none)).run Tryz.prog w = .ok (.bool r.isNone) w := by cases r <;> kernel_rfl
theorem funNil (s : Nat) (w : World) : (binOp .eql 45 (upF s) .nilFunc).run Tryz.prog w = .ok (.bool false) w := by kernel_rfl
theorem funNil' (w : World) : (binOp .eql 45 .nilFunc .nilFunc).run Tryz.prog w = .ok (.bool true) w := by kernel_rfl

theorem isNone_nil (w : World) : Calls Tryz.prog 27 #[.pointer none] w fun e w' => e = .returned (.bool true) ∧ w' = w := by
  go_enter Tryz.func27, Tryz.ntmps27
  go_wp2
  all_goals (go_ret; exact ⟨rfl, rfl⟩)

theorem isNone_plain {w : World} {c : Nat} (hc : w.heap[c]? = some (.cells #[.int .i64 0, .map none, .nilFunc] 48 (0, 0))) : Calls Tryz.prog 27 #[.pointer (some ⟨c, 0, none⟩)] w fun e w' => e = .returned (.bool true) ∧ w' = w := by
  have c2 := cell_of_row w c 2 _ _ _ hc
  have hz := lt_of_block hc
  have hn := funNil' w
  clear hc
  go_enter Tryz.func27, Tryz.ntmps27
  go_wp2
  all_goals (go_ret; exact ⟨rfl, rfl⟩)

theorem isNone_no {w : World} {c m s : Nat} {t span : Int} {l : List LfT} (h : Ck w c m s t span l) : Calls Tryz.prog 27 #[.pointer (some ⟨c, 0, none⟩)] w fun e w' => e = .returned (.bool false) ∧ w' = w := by
  have c2 := h.c2
  have hz := lt_of_block h.hc
  have hn := funNil s w
  clear h
  go_enter Tryz.func27, Tryz.ntmps27
  go_wp2
  all_goals (go_ret; exact ⟨rfl, rfl⟩)

theorem now_any {w : World} {c m s : Nat} {t span : Int} {l : List LfT} (h : Ck w c m s t span l) : Calls Tryz.prog 11 #[.pointer (some ⟨c, 0, none⟩)] w fun e w' => e = .returned (.int .i64 t) ∧ w' = w := by
  have c0 := h.c0
  have hz := lt_of_block h.hc
  have HN : Hid _ := isNone_no h
  clear h
  go_enter Tryz.func11, Tryz.ntmps11
  go_wp2_with fail
  refine Calls.mono HN.out ?_
  rintro e w1 ⟨rfl, hw1⟩
  rw [hw1]
  clear hw1 HN
  go_wp2
  all_goals (go_ret; exact ⟨rfl, rfl⟩)

/-- A tick put up to a multiple. -/
def upT (t span : Int) : Int := (t + span - 1).tdiv span * span

theorem upT_eq {t span : Int} (ht : 0 ≤ t) (hs : 1 ≤ span) : upT t span = (t + span - 1) / span * span := by
  unfold upT
  rw [Int.tdiv_eq_ediv_of_nonneg (by omega)]
theorem upT_bounds {t span : Int} (ht : 0 ≤ t) (hs : 1 ≤ span) : t ≤ upT t span ∧ upT t span < t + span ∧ upT t span % span = 0 := by
  rw [upT_eq ht hs]
  have h1 := Int.mul_ediv_add_emod (t + span - 1) span
  have h2 := Int.emod_nonneg (t + span - 1) (show span ≠ 0 by omega)
  have h3 := Int.emod_lt_of_pos (t + span - 1) (show 0 < span by omega)
  have h4 : (t + span - 1) / span * span = span * ((t + span - 1) / span) := Int.mul_comm _ _
  refine ⟨by omega, by omega, by simp⟩

theorem wrapI (n : Int) (h0 : -9223372036854775808 ≤ n) (h1 : n ≤ 9223372036854775807) : IntKind.i64.wrap n = n := by rw [IntKind.wrap_i64]; omega

theorem up_any {w : World} {s : Nat} {span : Int} (t : Int) (hs : w.cell? ⟨s, 0, none⟩ = some (.int .i64 span)) (h1 : 1 ≤ span) (h2 : span ≤ 1000) (h3 : 0 ≤ t) (h4 : t ≤ 4611686018427387904) :
    Calls Tryz.prog 12 #[.int .i64 t, .pointer (some ⟨s, 0, none⟩)] w fun e w' => e = .returned (.int .i64 (upT t span)) ∧ ∃ n, w' = w.drewN n := by
  have hb := upT_bounds h3 h1
  have e1 : IntKind.i64.wrap (t + span) = t + span := wrapI _ (by omega) (by omega)
  have e2 : IntKind.i64.wrap (t + span - 1) = t + span - 1 := wrapI _ (by omega) (by omega)
  have e3 : IntKind.i64.wrap ((t + span - 1).tdiv span) = (t + span - 1).tdiv span := by
    have q1 : 0 ≤ (t + span - 1).tdiv span := Int.tdiv_nonneg (by omega) (by omega)
    have q2 : (t + span - 1).tdiv span ≤ t + span - 1 := by rw [Int.tdiv_eq_ediv_of_nonneg (by omega)]; exact Int.ediv_le_self _ (by omega)
    exact wrapI _ (by omega) (by omega)
  have e4 : IntKind.i64.wrap ((t + span - 1).tdiv span * span) = upT t span := wrapI _ (by have := hb.1; unfold upT at this; omega) (by have := hb.2.1; unfold upT at this; omega)
  have hz : (span == 0) = false := by simp; omega
  have hz2 : span ≠ 0 := by omega
  clear hb
  go_enter Tryz.func12, Tryz.ntmps12
  go_wp2
  go_quiet (fail)
  go_wp2
  all_goals (go_ret; exact ⟨rfl, nq, rfl⟩)

end Go.Proofs.YtmniefmjdfdedaaGreatDoor
