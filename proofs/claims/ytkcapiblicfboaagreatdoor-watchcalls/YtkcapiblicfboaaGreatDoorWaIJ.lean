/- What a board's Add answers. -/
import Derived.Test.YtkcapiblicfboaaGreatDoorWaDJ
import Derived.Deep.RegionHeld
import Derived.Lib.SliceRun
import Derived.Deep.CutRange
namespace Go.Proofs.YtkcapiblicfboaaGreatDoor
open Go.RowKit Go.Shelf
set_option maxRecDepth 8000

theorem mem_split {x : WaT} : ∀ {l : List WaT}, x ∈ l → ∃ a b, l = a ++ x :: b ∧ x ∉ a
  | y :: r, h => by
    by_cases e : y = x
    · subst e; exact ⟨[], r, rfl, by simp⟩
    · obtain ⟨a, b, e1, e2⟩ := mem_split (l := r) (by simpa [Ne.symm e] using h)
      exact ⟨y :: a, b, by rw [e1]; rfl, by simp [e2, Ne.symm e]⟩

set_option maxHeartbeats 1000000 in
theorem add_no {w : World} {b m : Nat} {v : Value} {l : List WaT} (x : WaT) (h : Bo w b m v l l) (hl : x.2.2.size ≤ 4294967296) (hx : waOk x = false) :
    Calls Tryz.prog 17 #[.pointer (some ⟨b, 0, none⟩), .agg (waCs x)] w fun e w' => e = .returned (.int .i64 1) ∧ Below w.heap.size w w' := by
  have hB : Below w.heap.size w (w.alloc (.cells (waCs x) 57)) := (Below.refl _ w).alloc (Nat.le_refl _) _
  have HN : Hid _ := isNone_no (h.below hB)
  have HW : Hid (Calls Tryz.prog 49 #[.agg (waCs x)] (w.alloc (.cells (waCs x) 57)) fun e w' => e = .returned (.tuple #[.nilIface, .bool false]) ∧ Hid (Below w.heap.size w w')) := by
    refine (wishOf_any x _ hl).mono (fun e w' hh => ⟨?_, hB.trans (hh.2.mono hB.size)⟩)
    have := hh.1
    rw [hx] at this
    exact this
  clear hB h hx
  go_enter Tryz.func17, Tryz.ntmps17
  go_wp2_with fail
  refine Calls.mono HN.out ?_
  rintro e w1 ⟨rfl, rfl⟩
  clear HN
  go_wp2_with fail
  go_at_call 49
  refine Calls.mono HW.out ?_
  rintro e w2 ⟨rfl, HB⟩
  clear HW
  go_wp2
  all_goals (go_ret; exact ⟨rfl, HB.out⟩)

/-- The box of a parameter in a later world. -/
theorem box_later {w w' : World} {o : Obj} {k : Nat} (h : w.heap[k]? = some o) (hB : Below w.heap.size w w') : w'.heap[k]? = some o := (hB.block _ (lt_of_block h)).trans h

set_option maxHeartbeats 1000000 in
theorem add_old {w : World} {b m : Nat} {v : Value} {l : List WaT} (x : WaT) (h : Bo w b m v l l) (hl : x.2.2.size ≤ 4294967296) (hx : waOk x = true) (hm : x ∈ l) :
    Calls Tryz.prog 17 #[.pointer (some ⟨b, 0, none⟩), .agg (waCs x)] w fun e w' => e = .returned (.int .i64 0) ∧ Below w.heap.size w w' := by
  have hB : Below w.heap.size w (w.alloc (.cells (waCs x) 57)) := (Below.refl _ w).alloc (Nat.le_refl _) _
  have HN : Hid _ := isNone_no (h.below hB)
  have HW : Hid (Calls Tryz.prog 49 #[.agg (waCs x)] (w.alloc (.cells (waCs x) 57)) fun e w' => e = .returned (.tuple #[wishV x, .bool true]) ∧ w'.heap[w.heap.size]? = some (.cells (waCs x) 57 (0, 0)) ∧ Hid (Below w.heap.size w w')) := by
    refine (wishOf_any x _ hl).mono (fun e w' hh => ⟨?_, box_later (heap_alloc_new w _) hh.2, hB.trans (hh.2.mono hB.size)⟩)
    have := hh.1
    rw [hx] at this
    exact this
  have HH : Hid (Bo w b m v l l) := h
  clear hB h hx
  go_enter Tryz.func17, Tryz.ntmps17
  go_wp2_with fail
  refine Calls.mono HN.out ?_
  rintro e w1 ⟨rfl, rfl⟩
  clear HN
  go_wp2_with fail
  go_at_call 49
  refine Calls.mono HW.out ?_
  rintro e w2 ⟨rfl, hbx, HB⟩
  clear HW
  have h2 := HH.out.below HB.out
  obtain ⟨l1, l2, e, hn⟩ := mem_split hm
  have hlk : ∀ n, (Instr.lookup 78 (.map (some m)) (.agg #[.int .i64 x.1, .int .i8 x.2.1, .string x.2.2]) true).run Tryz.prog (w2.drewN n) = .ok (.tuple #[wishV x, .bool true]) (w2.drewN n) := fun n => look_some (w := w2.drewN n) (by have := h2.hm; rw [e] at this; exact this) hn true
  have c1 := h2.c1
  have hz := lt_of_block h2.hb
  have hz2 := lt_of_block hbx
  have d0 := cell_of_row w2 w.heap.size 0 _ _ _ hbx
  have d1 := cell_of_row w2 w.heap.size 1 _ _ _ hbx
  have d2 := cell_of_row w2 w.heap.size 2 _ _ _ hbx
  clear h2 e hbx hm hn
  go_wp2_with fail
  go_quiet (fail)
  go_wp2
  all_goals (go_ret; exact ⟨rfl, below_drewN HB.out _⟩)

end Go.Proofs.YtkcapiblicfboaaGreatDoor

/- A row of watches written over, and its end cleared; what the test of a board's shrink, and slices.IndexFunc and slices.DeleteFunc with it, answer. -/
namespace Go.Proofs.YtkcapiblicfboaaGreatDoor
open Go.RowKit Go.Shelf
set_option maxRecDepth 8000

theorem heap_set1 {w : World} {g i : Nat} {cur : Array Value} {T : TypeId} (u : Value) (h : w.heap[g]? = some (.cells cur T (0, 0))) : (w.setCell ⟨g, i, none⟩ u).heap[g]? = some (.cells (cur.setIfInBounds i u) T (0, 0)) := by
  rw [setCell_eq_setRow w g i _ _ _ _ h, setRow_heap w g _ _ _ _ h]

theorem kept_set (w : World) (g i : Nat) (u : Value) : Kept w (w.setCell ⟨g, i, none⟩ u) (fun k => k = g) := (Kept.refl w _).setCell _ _ (fun _ => rfl)

theorem heap_sets {g : Nat} {T : TypeId} : ∀ (vs : List Value) (o : Nat) (w : World) (cur : Array Value), w.heap[g]? = some (.cells cur T (0, 0)) → ∃ cur', (w.setCells g o vs).heap[g]? = some (.cells cur' T (0, 0)) ∧ cur'.size = cur.size ∧ (∀ j, j < o → cur'[j]? = cur[j]?) ∧ Kept w (w.setCells g o vs) (fun k => k = g)
  | [], _, w, cur, h => ⟨cur, h, rfl, fun _ _ => rfl, Kept.refl _ _⟩
  | v :: r, o, w, cur, h => by
    obtain ⟨c', e1, e2, e3, e4⟩ := heap_sets r (o + 1) _ _ (heap_set1 (i := o) v h)
    refine ⟨c', e1, by simpa using e2, fun j hj => ?_, (kept_set w g o v).trans e4 (fun _ _ h => h)⟩
    rw [e3 j (by omega), Array.getElem?_setIfInBounds, if_neg (by omega)]

theorem waFlat_set : ∀ (l : List WaT) (i : Nat) (x : WaT), i < l.length → waFlat (l.set i x) = (((waFlat l).set (i * 3) (.int .i64 x.1)).set (i * 3 + 1) (.int .i8 x.2.1)).set (i * 3 + 2) (.string x.2.2)
  | y :: r, 0, x, _ => rfl
  | y :: r, i + 1, x, h => by
    have := waFlat_set r i x (by simpa using h)
    rw [List.set_cons_succ, show (i + 1) * 3 = i * 3 + 1 + 1 + 1 by omega]
    simp only [waFlat, this]
    rfl

/-- An element of a row written over. -/
theorem row_put {w : World} {base g n cap i : Nat} {dk : List WaT} (x : WaT) (h : w.ownsRow base 57 3 (.slice (some ⟨g, 0, none⟩) n cap) n (waFlat dk)) (hd : dk.length = n) (hi : i < n) :
    (((w.setCell ⟨g, i * 3, none⟩ (.int .i64 x.1)).setCell ⟨g, i * 3 + 1, none⟩ (.int .i8 x.2.1)).setCell ⟨g, i * 3 + 2, none⟩ (.string x.2.2)).ownsRow base 57 3 (.slice (some ⟨g, 0, none⟩) n cap) n (waFlat (dk.set i x)) ∧ Kept w (((w.setCell ⟨g, i * 3, none⟩ (.int .i64 x.1)).setCell ⟨g, i * 3 + 1, none⟩ (.int .i8 x.2.1)).setCell ⟨g, i * 3 + 2, none⟩ (.string x.2.2)) (fun k => k = g) := by
  obtain ⟨h1, ⟨e, _⟩ | ⟨g', cap', cur, e, a2, a3, a4, a5, a6, a7⟩⟩ := h
  · cases e
  · simp only [Value.slice.injEq, Option.some.injEq, Addr.mk.injEq, and_true, true_and] at e
    obtain ⟨rfl, rfl⟩ := e
    refine ⟨⟨by rw [waFlat_len, List.length_set, hd], .inr ⟨g, cap, _, rfl, a2, heap_set1 _ (heap_set1 _ (heap_set1 _ a3)), a4, a5, by simp [a6], ?_⟩⟩, ((kept_set _ _ _ _).trans (kept_set _ _ _ _) (fun _ _ h => h)).trans (kept_set _ _ _ _) (fun _ _ h => h)⟩
    simp only [Array.toList_setIfInBounds, List.take_set]
    rw [a7, waFlat_set dk i x (by omega)]

theorem row_cells {w : World} {base g n cap : Nat} {dk : List WaT} (h : w.ownsRow base 57 3 (.slice (some ⟨g, 0, none⟩) n cap) n (waFlat dk)) (hd : dk.length = n) : (∀ i x, dk[i]? = some x → w.cell? ⟨g, i * 3, none⟩ = some (.int .i64 x.1) ∧ w.cell? ⟨g, i * 3 + 1, none⟩ = some (.int .i8 x.2.1) ∧ w.cell? ⟨g, i * 3 + 2, none⟩ = some (.string x.2.2)) ∧ (∀ j, w.frozen? ⟨g, j, none⟩ = false) ∧ g < w.heap.size ∧ n ≤ cap := by
  obtain ⟨h1, ⟨e, _⟩ | ⟨g', cap', cur, e, a2, a3, a4, a5, a6, a7⟩⟩ := h
  · cases e
  · simp only [Value.slice.injEq, Option.some.injEq, Addr.mk.injEq, and_true, true_and] at e
    obtain ⟨rfl, rfl⟩ := e
    refine ⟨fun i x hx => ?_, fun j => frozen_of_row w g j _ _ a3, lt_of_block a3, a4⟩
    have hi : i < dk.length := (List.getElem?_eq_some_iff.1 hx).1
    obtain ⟨e1, e2, e3⟩ := waFlat_at dk i x hx
    rw [← a7, List.getElem?_take, if_pos (by omega)] at e1 e2 e3
    exact ⟨by rw [cell_of_row w g _ _ _ _ a3, ← Array.getElem?_toList]; exact e1, by rw [cell_of_row w g _ _ _ _ a3, ← Array.getElem?_toList]; exact e2, by rw [cell_of_row w g _ _ _ _ a3, ← Array.getElem?_toList]; exact e3⟩

/-- A row's end cleared: its beginning stays. -/
theorem row_clear {w : World} {base g n cap i : Nat} {dk : List WaT} (ty : TypeId) (c : Nat) (h : w.ownsRow base 57 3 (.slice (some ⟨g, 0, none⟩) n cap) n (waFlat dk)) (hd : dk.length = n) (hi : i < n) :
    ∃ w', (Builtin.clear_ #[64] ty #[.slice (some ⟨g, i * 3, none⟩) (n - i) c]).run Tryz.prog w = .ok (.tuple #[]) w' ∧ w'.ownsRow base 57 3 (.slice (some ⟨g, 0, none⟩) i cap) i (waFlat (dk.take i)) ∧ Kept w w' (fun k => k = g) := by
  obtain ⟨h1, ⟨e, _⟩ | ⟨g', cap', cur, e, a2, a3, a4, a5, a6, a7⟩⟩ := h
  · cases e
  · simp only [Value.slice.injEq, Option.some.injEq, Addr.mk.injEq, and_true, true_and] at e
    obtain ⟨rfl, rfl⟩ := e
    have hzv : (zeroValue 57).run Tryz.prog w = .ok (.agg #[.int .i64 0, .int .i8 0, .string ⟨#[]⟩]) w := by kernel_rfl
    have hzs : (Builtin.zeroCells (Value.agg #[.int .i64 0, .int .i8 0, .string ⟨#[]⟩]).cells (n - i)).toList.length = (n - i) * 3 := by
      rw [Array.length_toList, size_zeroCells]; rfl
    have hone : ∀ v ∈ (Builtin.zeroCells (Value.agg #[.int .i64 0, .int .i8 0, .string ⟨#[]⟩]).cells (n - i)).toList, v.oneCell' = true := by
      intro v hv
      simp only [Builtin.zeroCells, Value.cells] at hv
      simp at hv
      obtain ⟨j, hj, rfl⟩ := hv
      have : j % 3 = 0 ∨ j % 3 = 1 ∨ j % 3 = 2 := by omega
      rcases this with e | e | e <;> simp [e, Value.oneCell']
    have hst := run_storeCells_cells (P := Tryz.prog) g (i * 3) (Builtin.zeroCells (Value.agg #[.int .i64 0, .int .i8 0, .string ⟨#[]⟩]).cells (n - i)).toList 0 w (fun j hj => by
      rw [hzs] at hj
      rw [cell_of_row w g _ _ _ _ a3, Array.getElem?_eq_getElem (by omega)]; rfl) (fun j _ => frozen_of_row w g _ _ _ a3) hone
    obtain ⟨cur', e1, e2, e3, e4⟩ := heap_sets (g := g) (Builtin.zeroCells (Value.agg #[.int .i64 0, .int .i8 0, .string ⟨#[]⟩]).cells (n - i)).toList (i * 3 + 0) w cur a3
    refine ⟨_, ?_, ⟨by rw [waFlat_len, List.length_take, Nat.min_eq_left (by omega)], .inr ⟨g, cap, cur', rfl, a2, e1, by omega, a5, by rw [e2, a6], ?_⟩⟩, e4⟩
    · unfold Builtin.clear_
      obtain ⟨k, hk⟩ : ∃ k, n - i = k + 1 := ⟨n - i - 1, by omega⟩
      rw [hk] at hst ⊢
      simp only [List.getElem?_toArray, List.getElem?_cons_zero, Sem.run_bind, run_underlying Tryz.underlying64, Result.andThen_ok, hzv, hst, Sem.run_pure]
    · have hsp : waFlat dk = waFlat (dk.take i) ++ waFlat (dk.drop i) := by rw [← waFlat_app, List.take_append_drop]
      have hl : (waFlat (dk.take i)).length = i * 3 := by rw [waFlat_len, List.length_take, Nat.min_eq_left (by omega)]
      have h7 : cur.toList.take (i * 3) = waFlat (dk.take i) := by
        have := congrArg (List.take (i * 3)) a7
        rw [List.take_take, Nat.min_eq_left (by omega), hsp, ← hl, List.take_left] at this
        rw [← hl]; exact this
      rw [← h7]
      apply List.ext_getElem?
      intro j
      rw [List.getElem?_take, List.getElem?_take]
      split
      · rename_i hj
        rw [Array.getElem?_toList, Array.getElem?_toList]
        exact e3 j (by omega)
      · rfl

end Go.Proofs.YtkcapiblicfboaaGreatDoor

/- What the test of a board's shrink, and slices.IndexFunc and slices.DeleteFunc with it, answer. -/
namespace Go.Proofs.YtkcapiblicfboaaGreatDoor
open Go.RowKit Go.Shelf
set_option maxRecDepth 8000
set_option linter.unusedSimpArgs false

/-- What the test reads: the caught pointer, the board, its map. -/
structure Ask (w : World) (pb b m : Nat) (l' : List WaT) : Prop where
  hp : w.heap[pb]? = some (.cells #[.pointer (some ⟨b, 0, none⟩)] 25 (0, 0))
  hc : ∃ v, w.heap[b]? = some (.cells #[v, .map (some m)] 80 (0, 0))
  hm : Mp w m l'
theorem Ask.kept {w w' : World} {S : Nat → Prop} {pb b m : Nat} {l' : List WaT} (h : Ask w pb b m l') (hk : Kept w w' S) (h1 : ¬ S pb) (h2 : ¬ S b) (h3 : ¬ S m) : Ask w' pb b m l' := by
  obtain ⟨v, hv⟩ := h.hc
  exact ⟨hk.heap h.hp h1, ⟨v, hk.heap hv h2⟩, h.hm.kept hk h3⟩
theorem Ask.below {w w' : World} {pb b m : Nat} {l' : List WaT} (h : Ask w pb b m l') (hB : Below w.heap.size w w') : Ask w' pb b m l' := by
  obtain ⟨v, hv⟩ := h.hc
  have := lt_of_block h.hp
  have := lt_of_block hv
  have := h.hm.lt
  exact h.kept (Below.kept hB) (by omega) (by omega) (by omega)

theorem cellB {w w' : World} {a : Addr} {v : Value} (hB : Below w.heap.size w w') (h : w.cell? a = some v) : w'.cell? a = some v := by
  have hl : a.block < w.heap.size := World.block_lt_of_cell? w a h
  unfold World.cell? at h ⊢
  rw [hB.block _ hl]
  exact h

def keepB (l' : List WaT) (x : WaT) : Bool := l'.any (waEq x)
theorem keepB_yes {l' : List WaT} {x : WaT} (h : x ∈ l') : keepB l' x = true := List.any_eq_true.2 ⟨x, h, waEq_self x⟩
theorem keepB_no {l' : List WaT} {x : WaT} (h : x ∉ l') : keepB l' x = false := by
  cases hh : keepB l' x
  · rfl
  · obtain ⟨y, hy, e⟩ := List.any_eq_true.1 hh
    rw [waEq_iff] at e
    subst e
    exact absurd hy h
theorem keepB_iff (l' : List WaT) (x : WaT) : keepB l' x = true ↔ x ∈ l' := ⟨fun h => by
    by_cases hx : x ∈ l'
    · exact hx
    · rw [keepB_no hx] at h; exact absurd h (by simp), keepB_yes⟩

set_option maxHeartbeats 1000000 in
theorem shrink1_any {w : World} {pb b m : Nat} {l' : List WaT} (x : WaT) (h : Ask w pb b m l') :
    Calls Tryz.prog 81 #[.agg (waCs x), .pointer (some ⟨pb, 0, none⟩)] w fun e w' => e = .returned (.bool (!keepB l' x)) ∧ Below w.heap.size w w' := by
  have hB : Below w.heap.size w (w.alloc (.cells (waCs x) 57)) := (Below.refl _ w).alloc (Nat.le_refl _) _
  have h1 := h.below hB
  obtain ⟨v, hv⟩ := h1.hc
  obtain ⟨rr, rb, hrr, hlk⟩ : ∃ (rr : Value) (rb : Bool), Hid (keepB l' x = rb) ∧ ∀ n, (Instr.lookup 78 (.map (some m)) (.agg #[.int .i64 x.1, .int .i8 x.2.1, .string x.2.2]) true).run Tryz.prog ((w.alloc (.cells (waCs x) 57)).drewN n) = .ok (.tuple #[rr, .bool rb]) ((w.alloc (.cells (waCs x) 57)).drewN n) := by
    by_cases hx : x ∈ l'
    · obtain ⟨l1, l2, e, hn⟩ := mem_split hx
      exact ⟨wishV x, true, keepB_yes hx, fun n => look_some (w := (w.alloc (.cells (waCs x) 57)).drewN n) (by have := h1.hm; rw [e] at this; exact this) hn true⟩
    · exact ⟨.nilIface, false, keepB_no hx, fun n => look_none (w := (w.alloc (.cells (waCs x) 57)).drewN n) h1.hm hx true⟩
  have c0 := cell_of_row _ pb 0 _ _ _ h1.hp
  have c1 := cell_of_row _ b 1 _ _ _ hv
  have hbx : (w.alloc (.cells (waCs x) 57)).heap[w.heap.size]? = some (.cells (waCs x) 57 (0, 0)) := heap_alloc_new w _
  have d0 := cell_of_row _ w.heap.size 0 _ _ _ hbx
  have d1 := cell_of_row _ w.heap.size 1 _ _ _ hbx
  have d2 := cell_of_row _ w.heap.size 2 _ _ _ hbx
  have hz1 := lt_of_block h1.hp
  have hz2 := lt_of_block hv
  have hz3 := lt_of_block hbx
  have HB : Hid (Below w.heap.size w (w.alloc (.cells (waCs x) 57))) := hB
  clear hbx h1 hB h hv
  go_enter Tryz.func81, Tryz.ntmps81
  go_wp2_with fail
  generalize w.alloc (.cells (waCs x) 57) = V at *
  go_quiet (fail)
  go_wp2
  all_goals (go_ret; exact ⟨by rw [hrr.out]; rfl, below_drewN HB.out _⟩)

set_option maxHeartbeats 1000000 in
theorem indexFW {w : World} {pb b m : Nat} {l' : List WaT} (h : Ask w pb b m l') (v : Value) (l : List WaT) (hv : SW w v l) (hlen : l.length ≤ 2000000000) :
    Calls Tryz.prog 86 #[v, .func (.func 81) #[] #[.pointer (some ⟨pb, 0, none⟩)]] w fun e w' => ((e = .returned (.int .i64 (-1)) ∧ l.filter (keepB l') = l) ∨ ∃ i : Nat, i < l.length ∧ e = .returned (.int .i64 i) ∧ (l.take i).filter (keepB l') = l.take i ∧ (l.take (i + 1)).filter (keepB l') = l.take i) ∧ Below w.heap.size w w' := by
  obtain ⟨ao, cap, rfl, hcap, hc⟩ := hv
  have HC0 : Hid (l ≠ [] → ∃ b off, ao = some ⟨b, off, none⟩ ∧ ∀ i x, l[i]? = some x → w.cell? ⟨b, off + i * 3, none⟩ = some (.int .i64 x.1) ∧ w.cell? ⟨b, off + i * 3 + 1, none⟩ = some (.int .i8 x.2.1) ∧ w.cell? ⟨b, off + i * 3 + 2, none⟩ = some (.string x.2.2)) := hc
  have HA0 : Hid (Ask w pb b m l') := h
  clear hc h
  go_enter Tryz.func86, Tryz.ntmps86
  go_wp2
  go_loopw [8] (fun vi wr => ∃ i : Nat, i ≤ l.length ∧ vi = .int .i64 (i : Int) ∧ Hid ((l.take i).filter (keepB l') = l.take i) ∧ Hid (Below w.heap.size w wr)) (fun vi _ => l.length - (intOf vi).toNat)
  case atStart => exact ⟨0, by omega, rfl, by show _ = _; simp, Below.refl _ _⟩
  case round =>
    obtain ⟨i, hi, rfl, HA, HW⟩ := hrel
    by_cases hlt : i < l.length
    · have hd : decide ((i : Int) < (l.length : Int)) = true := by simp; omega
      obtain ⟨b0, off, hao, hcx⟩ := HC0.out (fun e => by rw [e] at hlt; simp at hlt)
      obtain ⟨x, hx⟩ : ∃ x, l[i]? = some x := ⟨_, List.getElem?_eq_getElem hlt⟩
      obtain ⟨k0, k1, k2⟩ := hcx i x hx
      have l0 := cellB HW.out k0
      have l1 := cellB HW.out k1
      have l2 := cellB HW.out k2
      obtain ⟨bb, hbb⟩ : ∃ bb, bb = keepB l' x := ⟨_, rfl⟩
      have HF : Hid (Calls Tryz.prog 81 #[.agg (waCs x), .pointer (some ⟨pb, 0, none⟩)] wr fun e w' => e = .returned (.bool (!bb)) ∧ Hid (Below w.heap.size w w')) := by
        rw [hbb]
        exact (shrink1_any x (HA0.out.below HW.out)).mono (fun e w' hh => ⟨hh.1, HW.out.trans (hh.2.mono HW.out.size)⟩)
      have HN : Hid ((l.take (i + 1)).filter (keepB l') = l.take i ++ (if bb then [x] else []) ∧ l.take (i + 1) = l.take i ++ [x]) := by
        refine ⟨?_, by rw [List.take_add_one, hx]; rfl⟩
        rw [List.take_add_one, hx, List.filter_append, HA.out, hbb]
        cases hk : keepB l' x <;> simp [hk]
      subst hao
      clear hcx hx hbb k0 k1 k2
      go_wp2_with fail
      go_at_call 81
      refine (HF.out).mono ?_
      rintro e w1 ⟨rfl, HB1⟩
      cases bb
      · have HT : Hid ((l.take (i + 1)).filter (keepB l') = l.take i) := by show _ = _; have := HN.out.1; simpa using this
        go_wp2
        all_goals (go_ret; exact ⟨.inr ⟨i, hlt, rfl, HA.out, HT.out⟩, HB1.out⟩)
      · have HT : Hid ((l.take (i + 1)).filter (keepB l') = l.take (i + 1)) := by show _ = _; rw [HN.out.1, HN.out.2]; rfl
        go_wp2
        go_roundw
        case rel => exact ⟨i + 1, by omega, by simp, HT, HB1⟩
        case measure => simp [intOf]; omega
    · have hd : decide ((i : Int) < (l.length : Int)) = false := by simp; omega
      have HE : Hid (l.filter (keepB l') = l) := by
        have := HA.out
        rw [List.take_of_length_le (by omega)] at this
        exact this
      go_wp2
      all_goals (go_ret; exact ⟨.inl ⟨rfl, HE.out⟩, HW.out⟩)

end Go.Proofs.YtkcapiblicfboaaGreatDoor
