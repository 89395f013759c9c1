/- The document's net: New, Send. -/
import Derived.Test.YtghngopclhhoeaaDoorLpAJ
namespace Go.Proofs.YtghngopclhhoeaaDoor
open Go.RowKit
set_option maxRecDepth 8000
set_option linter.unusedSimpArgs false
set_option linter.unusedVariables false

/-- The document's net in memory. -/
structure Dn (w : World) (d : Nat) (n : Int) (base : Nat) (v : Value) (l : List MsG) : Prop where
  hb : w.heap[d]? = some (.cells #[.int .i64 n, v] 80 (0, 0))
  ow : OwG w base v l
  lo : ∀ m ∈ l, 1 ≤ m.bs.length
  hi : ∀ m ∈ l, m.bs.length ≤ 8192
theorem Dn.c0 {w : World} {d : Nat} {n : Int} {base : Nat} {v : Value} {l : List MsG} (h : Dn w d n base v l) : w.cell? ⟨d, 0, none⟩ = some (.int .i64 n) := by rw [cell_of_row _ _ _ _ _ _ h.hb]; rfl
theorem Dn.c1 {w : World} {d : Nat} {n : Int} {base : Nat} {v : Value} {l : List MsG} (h : Dn w d n base v l) : w.cell? ⟨d, 1, none⟩ = some v := by rw [cell_of_row _ _ _ _ _ _ h.hb]; rfl
/-- The blocks of the document's net. -/
def FdN (d : Nat) (v : Value) (l : List MsG) (k : Nat) : Prop := k = d ∨ v.ownBlock = some k ∨ ∃ m ∈ l, m.v.ownBlock = some k
theorem Dn.kept {w w' : World} {S : Nat → Prop} {d : Nat} {n : Int} {base : Nat} {v : Value} {l : List MsG} (h : Dn w d n base v l) (hk : Kept w w' S) (hn : ∀ k, FdN d v l k → ¬ S k) : Dn w' d n base v l :=
  ⟨hk.heap h.hb (hn d (.inl rfl)), ⟨rowKl h.ow.row hk (fun g hg => hn g (.inr (.inl hg))), fun m hm => Owns.kept (h.ow.own m hm) hk (fun k e => hn k (.inr (.inr ⟨m, hm, e⟩)))⟩, h.lo, h.hi⟩
theorem Dn.lt {w : World} {d : Nat} {n : Int} {base : Nat} {v : Value} {l : List MsG} (h : Dn w d n base v l) {k : Nat} (hk : FdN d v l k) : k < w.heap.size := by
  rcases hk with rfl | hk | ⟨m, hm, hk⟩
  · exact lt_of_block h.hb
  · exact (h.ow.row.lt k hk).2
  · exact ((h.ow.own m hm).lt k hk).2
theorem Dn.below {w w' : World} {d : Nat} {n : Int} {base : Nat} {v : Value} {l : List MsG} (h : Dn w d n base v l) (hB : Below w.heap.size w w') : Dn w' d n base v l :=
  h.kept (Below.kept hB) (fun k hk => by have := h.lt hk; omega)

theorem rNew_bad (w : World) (n : Int) (hn : n < 1 ∨ 7 < n) : Calls Tryd.prog 7 #[.int .i64 n] w fun e w' => e = .returned (.tuple #[.pointer none, .int .i64 1]) ∧ w' = w := by
  by_cases q : n < 1
  · have d1 : decide (n < 1) = true := by simp; omega
    go_enter Tryd.func7, Tryd.ntmps7
    go_wp2
    all_goals (go_ret2; exact ⟨rfl, rfl⟩)
  · have d1 : decide (n < 1) = false := by simp; omega
    have d2 : decide (7 < n) = true := by simp; omega
    go_enter Tryd.func7, Tryd.ntmps7
    go_wp2
    all_goals (go_ret2; exact ⟨rfl, rfl⟩)
theorem rNew_good (w : World) (n : Int) (h1 : 1 ≤ n) (h7 : n ≤ 7) (base : Nat) : Calls Tryd.prog 7 #[.int .i64 n] w fun e w' => e = .returned (.tuple #[.pointer (some ⟨w.heap.size, 0, none⟩), .int .i64 0]) ∧ Dn w' w.heap.size n base (.slice none 0 0) [] ∧ Below w.heap.size w w' := by
  have d1 : decide (n < 1) = false := by simp; omega
  have d2 : decide (7 < n) = false := by simp; omega
  have HB : Hid (Dn (w.alloc (.cells #[.int .i64 n, .slice none 0 0] 80)) w.heap.size n base (.slice none 0 0) [] ∧ Below w.heap.size w (w.alloc (.cells #[.int .i64 n, .slice none 0 0] 80))) :=
    ⟨⟨heap_alloc_new w _, ⟨World.ownsRow_nil _ _ _ _, fun m hm => by simp at hm⟩, fun m hm => by simp at hm, fun m hm => by simp at hm⟩, oneL w _⟩
  go_enter Tryd.func7, Tryd.ntmps7
  go_wp2
  all_goals (go_ret2; exact ⟨rfl, HB.out⟩)

set_option maxHeartbeats 4000000 in
/-- Send of what may not be sent. -/
theorem rSend_no {w : World} {d : Nat} {n : Int} {base : Nat} {v : Value} {l : List MsG} (h : Dn w d n base v l) (f t : Int) (f0 : -128 ≤ f) (f1 : f ≤ 127) (t0 : -128 ≤ t) (t1 : t ≤ 127) (ao : Option Addr) (len cap : Nat) (hk : okS n f t len = false) :
    Calls Tryd.prog 17 #[.pointer (some ⟨d, 0, none⟩), .int .i8 f, .int .i8 t, .slice ao len cap] w fun e w' => e = .returned (.int .i64 1) ∧ w' = w := by
  have c0 := h.c0
  have hz := lt_of_block h.hb
  clear h
  have w1 : IntKind.i64.wrap f = f := by rw [IntKind.wrap_i64]; omega
  have w2 : IntKind.i64.wrap t = t := by rw [IntKind.wrap_i64]; omega
  unfold okS hasL at hk
  simp only [Bool.and_eq_false_iff, decide_eq_false_iff_not, ne_eq, Decidable.not_not] at hk
  by_cases c1 : f < 0
  · have d1 : decide (f < 0) = true := decide_eq_true c1
    clear hk
    go_enter Tryd.func17, Tryd.ntmps17
    go_wp2_with fail
    all_goals (go_ret; exact ⟨rfl, rfl⟩)
  · have d1 : decide (f < 0) = false := decide_eq_false c1
    by_cases c2 : t < 0
    · have d2 : decide (t < 0) = true := decide_eq_true c2
      clear hk
      go_enter Tryd.func17, Tryd.ntmps17
      go_wp2_with fail
      all_goals (go_ret; exact ⟨rfl, rfl⟩)
    · have d2 : decide (t < 0) = false := decide_eq_false c2
      by_cases c3 : n ≤ f
      · have d3 : decide (n ≤ f) = true := decide_eq_true c3
        clear hk
        go_enter Tryd.func17, Tryd.ntmps17
        go_wp2_with fail
        all_goals (go_ret; exact ⟨rfl, rfl⟩)
      · have d3 : decide (n ≤ f) = false := decide_eq_false c3
        by_cases c4 : n ≤ t
        · have d4 : decide (n ≤ t) = true := decide_eq_true c4
          clear hk
          go_enter Tryd.func17, Tryd.ntmps17
          go_wp2_with fail
          all_goals (go_ret; exact ⟨rfl, rfl⟩)
        · have d4 : decide (n ≤ t) = false := decide_eq_false c4
          by_cases c5 : f = t
          · subst c5
            clear hk
            go_enter Tryd.func17, Tryd.ntmps17
            go_wp2_with fail
            all_goals (go_ret; exact ⟨rfl, rfl⟩)
          · have d5 : (f == t) = false := by simpa using c5
            by_cases c6 : len = 0
            · subst c6
              clear hk
              go_enter Tryd.func17, Tryd.ntmps17
              go_wp2_with fail
              all_goals (go_ret; exact ⟨rfl, rfl⟩)
            · have d6 : ((len : Int) == 0) = false := by simp; omega
              have d7 : decide ((8192 : Int) < (len : Int)) = true := decide_eq_true (by omega)
              clear hk
              go_enter Tryd.func17, Tryd.ntmps17
              go_wp2_with fail
              all_goals (go_ret; exact ⟨rfl, rfl⟩)
end Go.Proofs.YtghngopclhhoeaaDoor
