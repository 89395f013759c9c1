/- A map of sessions' lives keyed by their ids, held against a list: a look, a store, a delete, how many, and a range over it that deletes; no Go function is walked here. -/
import Derived.Test.YtmniefmjdfdedaaGreatDoorChecked
import Derived.Test.YtmniefmjdfdedaaGreatDoorMem
import Derived.MapKept
import Derived.Maps.RangeRun
import Derived.Maps.Range
import Derived.Shelf.Abstract
namespace Go.Proofs.YtmniefmjdfdedaaGreatDoor
open Go.RowKit Go.Shelf
open Go.ChangeMaps (setBlock)
set_option maxRecDepth 8000

/-- A session: its id, its time-out, the tick at which it is due. -/
abbrev LfT := Int × Int × Int
abbrev lfCs (x : LfT) : Array Value := #[.int .i32 x.2.1, .int .i64 x.2.2]
def lfV (x : LfT) : Value := .agg (lfCs x)
def ids (l : List LfT) : List Int := l.map (·.1)

/-- A map's entries are these sessions', in this order. -/
def Ents (es : List MapEntry) (l : List LfT) : Prop := es.map (fun e => (e.key, e.val)) = l.map (fun x => (Value.int .i64 x.1, lfV x))

theorem Ents.len {es : List MapEntry} {l : List LfT} (h : Ents es l) : es.length = l.length := by
  have := congrArg List.length h
  simpa using this

theorem now_none (y : Int) : ∀ (es : List MapEntry) (l : List LfT) (i : Nat), Ents es l → y ∉ ids l → Instr.findNow (.int .i64) (.int .i64 y) es i = some none
  | [], _, _, _, _ => rfl
  | e :: es, [], i, h, _ => by simp [Ents] at h
  | e :: es, x :: l, i, h, hn => by
    simp only [Ents, List.map_cons, List.cons.injEq, Prod.mk.injEq] at h
    have hx : (y == x.1) = false := by simp; intro e; exact hn (by simp [ids, e])
    unfold Instr.findNow
    simp only [h.1.1, Instr.sameNow, if_true, hx]
    exact now_none y es l (i + 1) h.2 (fun hm => hn (by simp only [ids, List.map_cons, List.mem_cons] at hm ⊢; exact .inr hm))

theorem now_some (y : LfT) : ∀ (es : List MapEntry) (a b : List LfT) (i : Nat), Ents es (a ++ y :: b) → y.1 ∉ ids a → Instr.findNow (.int .i64) (.int .i64 y.1) es i = some (some (i + a.length, lfV y))
  | [], a, b, _, h, _ => by have := Ents.len h; simp at this
  | e :: es, [], b, i, h, _ => by
    simp only [Ents, List.nil_append, List.map_cons, List.cons.injEq, Prod.mk.injEq] at h
    unfold Instr.findNow
    simp only [h.1.1, Instr.sameNow, if_true, beq_self_eq_true, h.1.2]
    rfl
  | e :: es, x :: a, b, i, h, hn => by
    simp only [Ents, List.cons_append, List.map_cons, List.cons.injEq, Prod.mk.injEq] at h
    have hx : (y.1 == x.1) = false := by simp; intro e; exact hn (by simp [ids, e])
    unfold Instr.findNow
    simp only [h.1.1, Instr.sameNow, if_true, hx]
    rw [now_some y es a b (i + 1) h.2 (fun hm => hn (by simp only [ids, List.map_cons, List.mem_cons] at hm ⊢; exact .inr hm))]
    simp only [List.length_cons]
    rw [show i + 1 + a.length = i + (a.length + 1) by omega]

theorem find_is (y : Int) (es : List MapEntry) {r : Option (Nat × Value)} (h : Instr.findNow (.int .i64) (.int .i64 y) es 0 = some r) (w : World) : (Instr.findKey 2 (.int .i64 y) es).run Tryz.prog w = .ok r w := by
  have hr : (underlying 2).run Tryz.prog w = .ok (.int .i64) w := run_underlying Tryz.underlying2 w
  unfold Instr.findKey
  simp only [Sem.run_bind, hr, Result.andThen_ok, h]
  rfl

theorem chkId (e : Bool) (y : Int) (w : World) : (Instr.checkKey e 10000 2 (.int .i64 y)).run Tryz.prog w = .ok () w := by kernel_rfl
theorem zeroLf (w : World) : (zeroValue 86).run Tryz.prog w = .ok (lfV (0, 0, 0)) w := by kernel_rfl
theorem stayId (y : Int) (w : World) : (Instr.keyThatStays (.int .i64 y) (.int .i64 y)).run Tryz.prog w = .ok (.int .i64 y) w := by
  unfold Instr.keyThatStays
  have : Instr.sameBits 10000 (.int .i64 y) (.int .i64 y) = true := by simp [Instr.sameBits]
  simp only [this, if_true]
  rfl

/-- The stamps of a map's entries: below the clock, no two alike. -/
def Stm (es : List MapEntry) (clock : Nat) : Prop := (∀ e ∈ es, e.born < clock) ∧ (es.map (·.born)).Nodup

/-- A block is a map with these sessions. -/
def Mp (w : World) (m : Nat) (l : List LfT) : Prop := ∃ es clock, w.heap[m]? = some (.map es clock) ∧ Ents es.toList l ∧ Stm es.toList clock

theorem Mp.kept {w w' : World} {S : Nat → Prop} {m : Nat} {l : List LfT} (h : Mp w m l) (hk : Kept w w' S) (hn : ¬ S m) : Mp w' m l := by
  obtain ⟨es, c, h1, h2⟩ := h
  exact ⟨es, c, hk.heap h1 hn, h2⟩
theorem Mp.lt {w : World} {m : Nat} {l : List LfT} (h : Mp w m l) : m < w.heap.size := by
  obtain ⟨es, c, h1, h2⟩ := h
  exact lt_of_block h1

theorem look_none {w : World} {m : Nat} {l : List LfT} (h : Mp w m l) {y : Int} (hy : y ∉ ids l) (c : Bool) :
    (Instr.lookup 46 (.map (some m)) (.int .i64 y) c).run Tryz.prog w = .ok (if c then .tuple #[lfV (0, 0, 0), .bool false] else lfV (0, 0, 0)) w := by
  obtain ⟨es, clock, hb, he, _⟩ := h
  unfold Instr.lookup
  simp only [Sem.run_bind, run_underlying Tryz.underlying46, MapKept.run_getObj_map hb, Result.andThen_ok, Sem.run_pure, chkId, find_is y es.toList (now_none y es.toList l 0 he hy), zeroLf]

theorem look_some {w : World} {m : Nat} {a b : List LfT} {y : LfT} (h : Mp w m (a ++ y :: b)) (hy : y.1 ∉ ids a) (c : Bool) :
    (Instr.lookup 46 (.map (some m)) (.int .i64 y.1) c).run Tryz.prog w = .ok (if c then .tuple #[lfV y, .bool true] else lfV y) w := by
  obtain ⟨es, clock, hb, he, _⟩ := h
  unfold Instr.lookup
  simp only [Sem.run_bind, run_underlying Tryz.underlying46, MapKept.run_getObj_map hb, Result.andThen_ok, Sem.run_pure, chkId, find_is y.1 es.toList (now_some y es.toList a b 0 he hy)]

theorem heap_put {w : World} {m : Nat} {o o' : Obj} (h : w.heap[m]? = some o) : ({ w with heap := w.heap.setIfInBounds m o' } : World).heap[m]? = some o' := by
  simp [lt_of_block h]
theorem kept_put (w : World) (m : Nat) (o' : Obj) : Kept w { w with heap := w.heap.setIfInBounds m o' } (fun k => k = m) :=
  ⟨rfl, rfl, rfl, by simp, fun k _ hn => by rw [Array.getElem?_setIfInBounds, if_neg (fun e => hn (Eq.symm e))]⟩

theorem store_none {w : World} {m : Nat} {l : List LfT} (h : Mp w m l) {y : LfT} (hy : y.1 ∉ ids l) :
    ∃ w', (Instr.mapUpdate 46 (.map (some m)) (.int .i64 y.1) (lfV y)).run Tryz.prog w = .ok () w' ∧ Mp w' m (l ++ [y]) ∧ Kept w w' (fun k => k = m) := by
  obtain ⟨es, clock, hb, he, hs⟩ := h
  refine ⟨_, ?_, ⟨es.push { key := .int .i64 y.1, val := lfV y, born := clock }, clock + 1, heap_put hb, ?_, ?_, ?_⟩, kept_put _ _ _⟩
  · unfold Instr.mapUpdate
    simp only [Sem.run_bind, run_underlying Tryz.underlying46, MapKept.run_getObj_map hb, Result.andThen_ok, chkId, find_is y.1 es.toList (now_none y.1 es.toList l 0 he hy), MapKept.run_setObj_map _ hb]
  · unfold Ents at he ⊢
    rw [Array.toList_push, List.map_append, he]
    simp
  · intro e hh
    rw [Array.toList_push, List.mem_append] at hh
    rcases hh with hh | hh
    · have := hs.1 e hh; omega
    · simp at hh; subst hh; simp
  · rw [Array.toList_push, List.map_append, List.nodup_append]
    refine ⟨hs.2, by simp, ?_⟩
    intro a ha b hb' hab
    simp at hb'
    obtain ⟨e, he', rfl⟩ := List.mem_map.1 ha
    have := hs.1 e he'
    omega

theorem map_strike {α β : Type} (f : α → β) : ∀ (l : List α) (j : Nat), (l.eraseIdx j).map f = (l.map f).eraseIdx j
  | [], _ => by simp
  | _ :: _, 0 => by simp
  | a :: r, j + 1 => by simp [map_strike f r j]

theorem map_modify {α β : Type} (f : α → β) (g : α → α) (z : β) (hg : ∀ x, f (g x) = z) : ∀ (l : List α) (j : Nat), (l.modify j g).map f = (l.map f).set j z
  | [], j => by cases j <;> simp
  | x :: l, 0 => by simp [hg]
  | x :: l, j + 1 => by simp [map_modify f g z hg l j]
theorem map_modify' {α β : Type} (f : α → β) (g : α → α) (hg : ∀ x, f (g x) = f x) : ∀ (l : List α) (j : Nat), (l.modify j g).map f = l.map f
  | [], j => by cases j <;> simp
  | x :: l, 0 => by simp [hg]
  | x :: l, j + 1 => by simp [map_modify' f g hg l j]

/-- A store at a key that is there. -/
theorem store_some {w : World} {m : Nat} {a b : List LfT} {y : LfT} (z : LfT) (hz : z.1 = y.1) (h : Mp w m (a ++ y :: b)) (hy : y.1 ∉ ids a) :
    ∃ w', (Instr.mapUpdate 46 (.map (some m)) (.int .i64 y.1) (lfV z)).run Tryz.prog w = .ok () w' ∧ Mp w' m (a ++ z :: b) ∧ Kept w w' (fun k => k = m) := by
  obtain ⟨es, clock, hb, he, hs⟩ := h
  have hl := he.len
  have hk : ((es[a.length]?).map (·.key)).getD (.int .i64 y.1) = .int .i64 y.1 := by
    have := congrArg (fun l => l[a.length]?) he
    simp only [List.getElem?_map] at this
    rw [List.getElem?_append_right (Nat.le_refl _)] at this
    simp at this
    obtain ⟨e, h1, h2, _⟩ := this
    simp [h1, h2]
  refine ⟨_, ?_, ⟨es.modify a.length (fun e => { e with key := .int .i64 y.1, val := lfV z }), clock, heap_put hb, ?_, ?_, ?_⟩, kept_put _ _ _⟩
  · unfold Instr.mapUpdate
    simp only [Sem.run_bind, run_underlying Tryz.underlying46, MapKept.run_getObj_map hb, Result.andThen_ok, chkId, find_is y.1 es.toList (now_some y es.toList a b 0 he hy), Nat.zero_add, hk, stayId, MapKept.run_setObj_map _ hb]
  · unfold Ents at he ⊢
    rw [Array.toList_modify, map_modify (fun e : MapEntry => (e.key, e.val)) (fun e : MapEntry => { e with key := .int .i64 y.1, val := lfV z }) (Value.int .i64 y.1, lfV z) (fun _ => rfl), he, List.map_append, List.map_append, List.set_append_right _ _ (by simp)]
    simp [hz]
  · intro e hh
    have h1 : e.born ∈ (es.modify a.length (fun e => { e with key := .int .i64 y.1, val := lfV z })).toList.map (·.born) := List.mem_map.2 ⟨e, hh, rfl⟩
    rw [Array.toList_modify, map_modify' (fun e : MapEntry => e.born) (fun e : MapEntry => { e with key := .int .i64 y.1, val := lfV z }) (fun _ => rfl)] at h1
    obtain ⟨e', h2, h3⟩ := List.mem_map.1 h1
    rw [← h3]
    exact hs.1 e' h2
  · rw [Array.toList_modify, map_modify' (fun e : MapEntry => e.born) (fun e : MapEntry => { e with key := .int .i64 y.1, val := lfV z }) (fun _ => rfl)]
    exact hs.2

theorem erase_list (es : Array MapEntry) (i : Nat) : (es.eraseIdxIfInBounds i).toList = es.toList.eraseIdx i := by
  unfold Array.eraseIdxIfInBounds
  split
  · simp
  · rename_i hh
    rw [List.eraseIdx_of_length_le (by simp; omega)]

theorem Stm.strike {es : List MapEntry} {c : Nat} (h : Stm es c) (i : Nat) : Stm (es.eraseIdx i) c :=
  ⟨fun e he => h.1 e ((List.eraseIdx_sublist _ _).subset he), by rw [map_strike]; exact h.2.sublist (List.eraseIdx_sublist _ _)⟩

theorem Ents.strike {es : List MapEntry} {a b : List LfT} {y : LfT} (he : Ents es (a ++ y :: b)) : Ents (es.eraseIdx a.length) (a ++ b) := by
  unfold Ents at he ⊢
  rw [map_strike, he, ← map_strike, List.eraseIdx_append_of_length_le (Nat.le_refl _)]
  simp

theorem strike_some {w : World} {m : Nat} {a b : List LfT} {y : LfT} (ty : TypeId) (h : Mp w m (a ++ y :: b)) (hy : y.1 ∉ ids a) :
    ∃ w', (Builtin.delete_ #[46, 2] ty #[.map (some m), .int .i64 y.1]).run Tryz.prog w = .ok (.tuple #[]) w' ∧ Mp w' m (a ++ b) ∧ Kept w w' (fun k => k = m) := by
  obtain ⟨es, clock, hb, he, hs⟩ := h
  refine ⟨_, ?_, ⟨es.eraseIdxIfInBounds a.length, clock, heap_put hb, ?_, ?_⟩, kept_put _ _ _⟩
  · unfold Builtin.delete_
    simp only [List.getElem?_toArray, List.getElem?_cons_zero, List.getElem?_cons_succ, Sem.run_bind, run_underlying Tryz.underlying46, MapKept.run_getObj_map hb, Result.andThen_ok, Sem.run_pure, chkId, find_is y.1 es.toList (now_some y es.toList a b 0 he hy), MapKept.run_setObj_map _ hb, Nat.zero_add]
  · rw [erase_list]; exact he.strike
  · rw [erase_list]; exact hs.strike _

theorem strike_none {w : World} {m : Nat} {l : List LfT} {y : Int} (ty : TypeId) (h : Mp w m l) (hy : y ∉ ids l) :
    ∃ w', (Builtin.delete_ #[46, 2] ty #[.map (some m), .int .i64 y]).run Tryz.prog w = .ok (.tuple #[]) w' ∧ Mp w' m l ∧ Kept w w' (fun k => k = m) := by
  obtain ⟨es, clock, hb, he, hs⟩ := h
  refine ⟨_, ?_, ⟨es, clock, heap_put hb, he, hs⟩, kept_put _ _ _⟩
  unfold Builtin.delete_
  simp only [List.getElem?_toArray, List.getElem?_cons_zero, List.getElem?_cons_succ, Sem.run_bind, run_underlying Tryz.underlying46, MapKept.run_getObj_map hb, Result.andThen_ok, Sem.run_pure, chkId, find_is y es.toList (now_none y es.toList l 0 he hy), MapKept.run_setObj_map _ hb]

theorem len_map {w : World} {m : Nat} {l : List LfT} (ty : TypeId) (h : Mp w m l) : (Builtin.len_ #[46] ty #[.map (some m)]).run Tryz.prog w = .ok (.int .i64 (l.length : Int)) w := by
  obtain ⟨es, clock, hb, he, hs⟩ := h
  have hl := he.len
  unfold Builtin.len_
  simp only [List.getElem?_toArray, List.getElem?_cons_zero, Sem.run_bind, run_underlying Tryz.underlying46, MapKept.run_getObj_map hb, Result.andThen_ok, Sem.run_pure]
  rw [← hl]
  simp [goInt]

/-- A range over a map under way: the map holds l; who is in 'done' has come. -/
def Rg (w : World) (m r : Nat) (l done : List LfT) : Prop :=
  ∃ es clock since seen c0, w.heap[m]? = some (.map es clock) ∧ Ents es.toList l ∧ Stm es.toList clock ∧
    w.heap[r]? = some (.mapIter (some m) since seen c0) ∧ (∀ e ∈ es.toList, e.born < since) ∧ since ≤ c0 ∧ since ≤ clock ∧
    ∀ (i : Nat) (e : MapEntry) (x : LfT), es.toList[i]? = some e → l[i]? = some x → (seen.contains e.born = true ↔ x ∈ done)

theorem Rg.map {w : World} {m r : Nat} {l done : List LfT} (h : Rg w m r l done) : Mp w m l := by
  obtain ⟨es, clock, _, _, _, h1, h2, h3, _⟩ := h
  exact ⟨es, clock, h1, h2, h3⟩
theorem Rg.lt {w : World} {m r : Nat} {l done : List LfT} (h : Rg w m r l done) : r < w.heap.size := by
  obtain ⟨es, clock, _, _, _, _, _, _, h4, _⟩ := h
  exact lt_of_block h4
theorem Rg.ne {w : World} {m r : Nat} {l done : List LfT} (h : Rg w m r l done) : r ≠ m := by
  obtain ⟨es, clock, _, _, _, h1, _, _, h4, _⟩ := h
  intro e
  rw [e, h1] at h4
  cases h4
theorem Rg.kept {w w' : World} {S : Nat → Prop} {m r : Nat} {l done : List LfT} (h : Rg w m r l done) (hk : Kept w w' S) (h1 : ¬ S m) (h2 : ¬ S r) : Rg w' m r l done := by
  obtain ⟨es, clock, s, sn, c, a1, a2, a3, a4, a5⟩ := h
  exact ⟨es, clock, s, sn, c, hk.heap a1 h1, a2, a3, hk.heap a4 h2, a5⟩

theorem rg_start {w : World} {m : Nat} {l : List LfT} (h : Mp w m l) : ∃ w', (Instr.range 46 (.map (some m))).run Tryz.prog w = .ok (.pointer (some ⟨w.heap.size, 0, none⟩)) w' ∧ Rg w' m w.heap.size l [] ∧ Below w.heap.size w w' ∧ w'.heap.size = w.heap.size + 1 := by
  have hlt := h.lt
  obtain ⟨es, clock, hb, he, hs⟩ := h
  refine ⟨_, run_range_map w _ _ _ m es clock Tryz.underlying46 hb, ⟨es, clock, clock, #[], clock, (Below.heap_alloc _ _ _ hlt).trans hb, he, hs, heap_alloc_new _ _, hs.1, Nat.le_refl _, Nat.le_refl _, fun _ _ _ _ _ => by simp⟩, (Below.refl _ _).alloc (Nat.le_refl _) _, by simp⟩

theorem nodup_at {α β : Type} (f : α → β) : ∀ {l : List α} {i j : Nat} {a b : α}, (l.map f).Nodup → l[i]? = some a → l[j]? = some b → f a = f b → i = j := by
  intro l i j a b hn hi hj hf
  have e1 : (l.map f)[i]? = some (f a) := by simp [hi]
  have e2 : (l.map f)[j]? = some (f b) := by simp [hj]
  rw [← hf] at e2
  obtain ⟨h1, e1⟩ := List.getElem?_eq_some_iff.1 e1
  obtain ⟨h2, e2⟩ := List.getElem?_eq_some_iff.1 e2
  exact (List.getElem_inj hn).1 (e1.trans e2.symm)

/-- The step. -/
theorem rg_next {w : World} {m r : Nat} {l done : List LfT} (h : Rg w m r l done) (hnd : l.Nodup) (ty : TypeId) :
    (w.rangeLeft m r = 0 ∧ (∀ x ∈ l, x ∈ done) ∧ (Instr.next (.pointer (some ⟨r, 0, none⟩)) false ty).run Tryz.prog w = .ok (.tuple #[.bool false]) w) ∨
    ∃ x w', x ∈ l ∧ x ∉ done ∧ (Instr.next (.pointer (some ⟨r, 0, none⟩)) false ty).run Tryz.prog w = .ok (.tuple #[.bool true, .int .i64 x.1, lfV x]) w' ∧
      Rg w' m r l (x :: done) ∧ w'.rangeLeft m r < w.rangeLeft m r ∧ Kept w w' (fun k => k = r) ∧ w'.heap.size = w.heap.size ∧ (Instr.entry (.pointer (some ⟨r, 0, none⟩))).run Tryz.prog w' = .ok (.tuple #[.int .i64 x.1, lfV x]) w' := by
  have hne := h.ne
  obtain ⟨es, clock, since, seen, c0, hb, he, hs, hr, hold, hsc, hsk, hd⟩ := h
  have hl := he.len
  have at_ : ∀ (i : Nat) (e : MapEntry), es.toList[i]? = some e → ∃ x, l[i]? = some x ∧ e.key = .int .i64 x.1 ∧ e.val = lfV x := by
    intro i e hi
    have hil : i < l.length := by
      have := (List.getElem?_eq_some_iff.1 hi).1
      omega
    have := congrArg (fun q => q[i]?) he
    simp only [List.getElem?_map, hi, Option.map_some, List.getElem?_eq_getElem hil, Option.some.injEq, Prod.mk.injEq] at this
    exact ⟨l[i], List.getElem?_eq_getElem hil, this.1, this.2⟩
  have hrl : w.rangeLeft m r = (leftOf es seen).size := by simp only [World.rangeLeft, hb, hr]
  rcases run_next_at (P := Tryz.prog) w ty r m since c0 seen es clock hr hb hold hsc with ⟨h0, hrun⟩ | ⟨e, hel, w1, hal, hrun⟩
  · refine Or.inl ⟨hrl.trans h0, fun x hx => ?_, hrun⟩
    obtain ⟨i, hi⟩ := List.getElem?_of_mem hx
    have hil : i < es.toList.length := by
      have := (List.getElem?_eq_some_iff.1 hi).1
      omega
    exact (hd i _ x (List.getElem?_eq_getElem hil) hi).1 (all_seen es seen h0 _ (List.getElem_mem hil))
  · obtain ⟨hem, hes⟩ := mem_left hel
    obtain ⟨i, hi⟩ := List.getElem?_of_mem hem
    obtain ⟨x, hx, ek, ev⟩ := at_ i e hi
    have hr1 : w1.heap[r]? = some (.mapIter (some m) since seen c0) := by rcases hal with rfl | rfl <;> exact hr
    have hb1 : w1.heap[m]? = some (.map es clock) := by rcases hal with rfl | rfl <;> exact hb
    have hset := heap_put (w := w1) (o' := .mapIter (some m) since (seen.push e.born) clock) hr1
    have hk1 := kept_put w1 r (.mapIter (some m) since (seen.push e.born) clock)
    have hb' := hk1.heap hb1 (fun e1 => hne e1.symm)
    have hkw : Kept w w1 (fun k => k = r) := by rcases hal with rfl | rfl <;> exact ⟨rfl, rfl, rfl, Nat.le_refl _, fun _ _ _ => rfl⟩
    refine Or.inr ⟨x, _, List.mem_of_getElem? hx, fun hxd => ?_, ?_, ⟨es, clock, since, seen.push e.born, clock, hb', he, hs, hset, hold, hsk, hsk, ?_⟩, ?_, hkw.trans hk1 (fun _ _ h => h), ?_, ?_⟩
    · have := (hd i e x hi hx).2 hxd
      rw [hes] at this
      cases this
    · rw [← ek, ← ev]; exact hrun
    · intro j e' x' hj hx'
      rw [contains_push]
      have := hd j e' x' hj hx'
      by_cases hij : j = i
      · subst hij
        rw [hi] at hj; cases hj
        rw [hx] at hx'; cases hx'
        simp
      · have n1 : (e'.born == e.born) = false := by
          simp only [beq_eq_false_iff_ne, ne_eq]
          exact fun hh => hij (nodup_at (·.born) hs.2 hj hi hh)
        have n2 : x' ≠ x := fun hh => by
          subst hh
          exact hij (nodup_at id (by simpa using hnd) hx' hx rfl)
        simp only [n1, Bool.or_false, this, List.mem_cons, n2, false_or]
    · rw [hrl]
      simp only [World.rangeLeft, hb', hset]
      exact left_shrinks es seen e hel
    · rcases hal with rfl | rfl <;> simp
    · rw [← ek, ← ev]; exact run_entry_at _ r m since seen es clock e hset hb' hem hs.2

theorem filter_erase_le {α : Type} (p : α → Bool) (l : List α) (i : Nat) : ((l.eraseIdx i).filter p).length ≤ (l.filter p).length := ((List.eraseIdx_sublist l i).filter p).length_le

/-- A delete in a round. -/
theorem rg_strike {w : World} {m r : Nat} {a b done : List LfT} {y : LfT} (ty : TypeId) (h : Rg w m r (a ++ y :: b) done) (hy : y.1 ∉ ids a) :
    ∃ w', (Builtin.delete_ #[46, 2] ty #[.map (some m), .int .i64 y.1]).run Tryz.prog w = .ok (.tuple #[]) w' ∧ Rg w' m r (a ++ b) done ∧ Kept w w' (fun k => k = m) ∧ w'.rangeLeft m r ≤ w.rangeLeft m r ∧ w'.heap.size = w.heap.size := by
  have hne := h.ne
  obtain ⟨es, clock, since, seen, c0, hb, he, hs, hr, hold, hsc, hsk, hd⟩ := h
  have hk1 := kept_put w m (.map (es.eraseIdxIfInBounds a.length) clock)
  have hr' := hk1.heap hr hne
  have hb' := heap_put (w := w) (o' := .map (es.eraseIdxIfInBounds a.length) clock) hb
  refine ⟨_, ?_, ⟨es.eraseIdxIfInBounds a.length, clock, since, seen, c0, hb', ?_, ?_, hr', ?_, hsc, hsk, ?_⟩, hk1, ?_, by simp⟩
  · unfold Builtin.delete_
    simp only [List.getElem?_toArray, List.getElem?_cons_zero, List.getElem?_cons_succ, Sem.run_bind, run_underlying Tryz.underlying46, MapKept.run_getObj_map hb, Result.andThen_ok, Sem.run_pure, chkId, find_is y.1 es.toList (now_some y es.toList a b 0 he hy), MapKept.run_setObj_map _ hb, Nat.zero_add]
  · rw [erase_list]; exact he.strike
  · rw [erase_list]; exact hs.strike _
  · intro e hh
    rw [erase_list] at hh
    exact hold e ((List.eraseIdx_sublist _ _).subset hh)
  · intro i e x hi hx
    rw [erase_list, List.getElem?_eraseIdx] at hi
    have e2 : a ++ b = (a ++ y :: b).eraseIdx a.length := by
      rw [List.eraseIdx_append_of_length_le (Nat.le_refl _)]; simp
    rw [e2, List.getElem?_eraseIdx] at hx
    by_cases hlt : i < a.length
    · rw [if_pos hlt] at hi hx
      exact hd i e x hi hx
    · rw [if_neg hlt] at hi hx
      exact hd (i + 1) e x hi hx
  · simp only [World.rangeLeft, hb', hr', hb, hr, leftOf]
    have q : ∀ xs : Array MapEntry, (xs.filter (fun e => !seen.contains e.born)).size = (xs.toList.filter (fun e => !seen.contains e.born)).length := fun xs => by rw [← Array.toList_filter, Array.length_toList]
    rw [q, q, erase_list]
    exact filter_erase_le _ _ _

end Go.Proofs.YtmniefmjdfdedaaGreatDoor
