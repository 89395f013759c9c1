/- What Spoil, Len and All do. -/
import Derived.Test.YtghngopclhhoeaaDoorLkHJ
namespace Go.Proofs.YtghngopclhhoeaaDoor
open Go.RowKit
set_option maxRecDepth 8000
set_option linter.unusedSimpArgs false
set_option linter.unusedVariables false

theorem fn_spoil (args : Array Value) (w : World) : (callFunc 56 args).run Tryd.prog w = .ok (.enter 56 args) w := rfl
theorem two_allocL (w : World) (a b : Obj) : Below w.heap.size w ((w.alloc a).alloc b) ∧ ((w.alloc a).alloc b).heap[w.heap.size]? = some a ∧ ((w.alloc a).alloc b).heap[w.heap.size + 1]? = some b ∧ ((w.alloc a).alloc b).heap.size = w.heap.size + 2 := by
  have b1 := oneL w a
  have b2 := oneL (w.alloc a) b
  have s1 : (w.alloc a).heap.size = w.heap.size + 1 := World.size_alloc _ _
  have s2 : ((w.alloc a).alloc b).heap.size = w.heap.size + 2 := by rw [World.size_alloc, s1]
  have h2 := heap_alloc_new (w.alloc a) b
  rw [s1] at h2
  exact ⟨b1.trans (b2.mono (by omega)), boxL (heap_alloc_new w a) b2, h2, s2⟩

theorem spoil_none {w : World} {b : Nat} {n : Int} {v : Value} {l : List MsD} (h : Nt w b n v l) (p k x : Int) (hp : p < 0 ∨ (l.length : Int) ≤ p) :
    Calls Tryd.prog 24 #[.pointer (some ⟨b, 0, none⟩), .int .i64 p, .int .i64 k, .int .u8 x] w fun e w' => e = .returned (.int .i64 220) ∧ Below w.heap.size w w' := by
  obtain ⟨f1, f2, f3, f4⟩ := two_allocL w (.cells #[.int .i64 k] 3) (.cells #[.int .u8 x] 5)
  have HW : Hid _ := with_no (h.below f1) p hp (.func (.func 56) #[] #[.pointer (some ⟨w.heap.size, 0, none⟩), .pointer (some ⟨w.heap.size + 1, 0, none⟩)])
  have HB : Hid _ := f1
  clear h f1 f2 f3 f4
  go_enter Tryd.func24, Tryd.ntmps24
  go_wp2_with fail
  refine Calls.mono HW.out ?_
  rintro _ w2 ⟨rfl, k', rfl⟩
  go_wp2_with fail
  all_goals (go_ret; exact ⟨rfl, below_drewN HB.out k'⟩)

theorem spoil_no {w : World} {b p : Nat} {n : Int} {v : Value} {l : List MsD} {m : MsD} (h : Nt w b n v l) (hm : l[p]? = some m) (k x : Int) (hE : spE m k x ≠ 0) :
    Calls Tryd.prog 24 #[.pointer (some ⟨b, 0, none⟩), .int .i64 (p : Nat), .int .i64 k, .int .u8 x] w fun e w' => e = .returned (.int .i64 (spE m k x)) ∧ Below w.heap.size w w' := by
  obtain ⟨f1, f2, f3, f4⟩ := two_allocL w (.cells #[.int .i64 k] 3) (.cells #[.int .u8 x] 5)
  obtain ⟨g, cap, rfl, hat⟩ := h.row hm
  have HW : Hid _ := with_yes (h.below f1) p (List.getElem?_eq_some_iff.1 hm).1 56 #[] #[.pointer (some ⟨w.heap.size, 0, none⟩), .pointer (some ⟨w.heap.size + 1, 0, none⟩)] fn_spoil (spoil1_no (hat.below f1) k x f2 f3 hE)
  have HB : Hid _ := f1
  clear h f1 f2 f3 f4 hat hm hE
  generalize spE m k x = E at HW ⊢
  go_enter Tryd.func24, Tryd.ntmps24
  go_wp2_with fail
  refine Calls.mono HW.out ?_
  rintro _ w2 ⟨rfl, rfl⟩
  go_wp2_with fail
  all_goals (go_ret; exact ⟨rfl, below_drewN HB.out 1⟩)

theorem spoil_yes {w : World} {b p k : Nat} {n x : Int} {v : Value} {l : List MsD} {m : MsD} (h : Nt w b n v l) (hm : l[p]? = some m) (x0 : 0 ≤ x) (x1 : x ≤ 255) (hE : spE m (k : Nat) x = 0) :
    Calls Tryd.prog 24 #[.pointer (some ⟨b, 0, none⟩), .int .i64 (p : Nat), .int .i64 (k : Nat), .int .u8 x] w fun e w' => e = .returned (.int .i64 0) ∧ Nt w' b n v (l.set p (spM m k x)) ∧ Kept w w' (fun q => v.ownBlock = some q ∨ q = m.g) := by
  obtain ⟨f1, f2, f3, f4⟩ := two_allocL w (.cells #[.int .i64 (k : Nat)] 3) (.cells #[.int .u8 x] 5)
  obtain ⟨g, cap, rfl, hat⟩ := h.row hm
  have hlt := (h.hm m (List.mem_of_getElem? hm)).lt
  have HW : Hid _ := with_yes (h.below f1) p (List.getElem?_eq_some_iff.1 hm).1 56 #[] #[.pointer (some ⟨w.heap.size, 0, none⟩), .pointer (some ⟨w.heap.size + 1, 0, none⟩)] fn_spoil (spoil1_yes (h.below f1) hm f2 f3 x0 x1 hE (hat.below f1) (by omega))
  have HB : Hid (∀ w', Kept ((w.alloc (.cells #[.int .i64 (k : Nat)] 3)).alloc (.cells #[.int .u8 x] 5)) w' (fun q => q = g ∨ q = m.g) → Kept w w' (fun q => (Value.slice (some ⟨g, 0, none⟩) l.length cap).ownBlock = some q ∨ q = m.g)) := fun w' hk => ((Below.kept f1).mono (S' := fun q => (Value.slice (some ⟨g, 0, none⟩) l.length cap).ownBlock = some q ∨ q = m.g) (fun q h1 h2 => by omega)).trans hk (fun q _ e => e.imp (fun e => by rw [e]; rfl) id)
  clear h f1 f2 f3 f4 hat hm hE hlt x0 x1
  go_enter Tryd.func24, Tryd.ntmps24
  go_wp2_with fail
  refine Calls.mono HW.out ?_
  rintro _ w2 ⟨rfl, hR⟩
  have HR : Hid _ := hR
  clear hR
  go_wp2_with fail
  all_goals (go_ret; exact ⟨rfl, HR.out.1, HB.out _ HR.out.2⟩)

theorem len_anyL {w : World} {b : Nat} {n : Int} {v : Value} {l : List MsD} (h : Nt w b n v l) :
    Calls Tryd.prog 15 #[.pointer (some ⟨b, 0, none⟩)] w fun e w' => e = .returned (.int .i64 l.length) ∧ w' = w := by
  obtain ⟨ao, cap, rfl⟩ := rowSl h.ho
  have c1 := h.c1
  have hz := lt_of_block h.hb
  have HI : Hid (Calls Tryd.prog 48 #[.pointer (some ⟨b, 0, none⟩)] w fun e w' => e = .returned (.bool false) ∧ w' = w) := isNone_noL h
  clear h
  go_enter Tryd.func15, Tryd.ntmps15
  go_wp2_with fail
  refine HI.out.mono ?_
  rintro _ _ ⟨rfl, rfl⟩
  go_wp2_with fail
  all_goals (go_ret; exact ⟨rfl, rfl⟩)

/-- All: copies, their bytes in one new block. -/
theorem all_anyL {w : World} {b : Nat} {n : Int} {v : Value} {l : List MsD} (h : Nt w b n v l) (hl : l.length ≤ 100000000) :
    Calls Tryd.prog 26 #[.pointer (some ⟨b, 0, none⟩)] w fun e w' => ∃ R O, e = .returned (.slice (some ⟨O, 0, none⟩) l.length l.length) ∧ w.heap.size ≤ R ∧ w.heap.size ≤ O ∧ w'.heap[O]? = some (.cells (msFlat (outL R 0 l)).toArray 72 (0, 0)) ∧ w'.heap[R]? = some (.cells ((allB l).map (Value.int .u8)).toArray 5 (0, 0)) ∧ Below w.heap.size w w' := by
  obtain ⟨ao, cap, rfl⟩ := rowSl h.ho
  have c1 := h.c1
  have hz := lt_of_block h.hb
  have HI : Hid (Calls Tryd.prog 48 #[.pointer (some ⟨b, 0, none⟩)] w fun e w' => e = .returned (.bool false) ∧ w' = w) := isNone_noL h
  have HC : Hid _ := copies_any h.sm hl (fun m hm => (h.hm m hm).hi) (fun m hm => (h.hm m hm).lo)
  clear h
  go_enter Tryd.func26, Tryd.ntmps26
  go_wp2_with fail
  refine HI.out.mono ?_
  rintro _ _ ⟨rfl, rfl⟩
  go_wp2_with fail
  refine Calls.mono HC.out ?_
  rintro _ w2 ⟨R, O, rfl, hR⟩
  have HR : Hid _ := hR
  clear hR HC
  go_wp2_with fail
  all_goals (go_ret; exact ⟨R, O, rfl, HR.out⟩)

end Go.Proofs.YtghngopclhhoeaaDoor
