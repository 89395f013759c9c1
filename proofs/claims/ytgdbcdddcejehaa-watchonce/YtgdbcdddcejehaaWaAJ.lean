/- Watches in memory, and a map whose keys are watches: a look, a store, a delete, held against a list; no Go function is walked here. -/
import Derived.Test.YtgdbcdddcejehaaChecked
import Derived.Test.YtgdbcdddcejehaaMemJ
import Derived.Test.YtgdbcdddcejehaaPaPJ
import Derived.DeepKeys
import Derived.MapKept
import Derived.Shelf.Abstract
import Derived.Lib.Strings
namespace Go.Proofs.Ytgdbcdddcejehaa
open Go.RowKit Go.Shelf
set_option maxRecDepth 8000

/-- A watch: its client, its kind, its path. -/
abbrev WaT := Int × Int × ByteArray
/-- A change: its kind, its path. -/
abbrev ChT := Int × ByteArray
abbrev waCs (x : WaT) : Array Value := #[.int .i64 x.1, .int .i8 x.2.1, .string x.2.2]
abbrev chCs (x : ChT) : Array Value := #[.int .i8 x.1, .string x.2]
def waEq (x y : WaT) : Bool := (x.1 == y.1) && ((x.2.1 == y.2.1) && (x.2.2.toList == y.2.2.toList))

theorem toList_inj {a b : ByteArray} (h : a.toList = b.toList) : a = b := by
  rw [Lib.toList_data, Lib.toList_data] at h
  exact ByteArray.ext (Array.toList_inj.1 h)

theorem waEq_iff (x y : WaT) : waEq x y = true ↔ x = y := by
  obtain ⟨a, b, c⟩ := x
  obtain ⟨d, e, f⟩ := y
  unfold waEq
  simp only [Bool.and_eq_true, beq_iff_eq, Prod.mk.injEq]
  exact ⟨fun h => ⟨h.1, h.2.1, toList_inj h.2.2⟩, fun h => ⟨h.1, h.2.1, by rw [h.2.2]⟩⟩

theorem waEq_self (x : WaT) : waEq x x = true := (waEq_iff x x).2 rfl
theorem waEq_ne {x y : WaT} (h : x ≠ y) : waEq x y = false := by
  cases hh : waEq x y
  · rfl
  · exact absurd ((waEq_iff x y).1 hh) h

theorem eqWaG (k : Nat) (x y : WaT) (w : World) : (Op.equalIn (k + 1 + 1) 30 (.agg (waCs x)) (.agg (waCs y))).run Try.prog w = .ok (waEq x y) w := by
  obtain ⟨a, b, c⟩ := x
  obtain ⟨d, e, f⟩ := y
  have hu : Try.prog.underlying 30 = some (.struct (Try.prog.fieldsOf 30)) := by kernel_rfl
  have hp : Try.prog.stoodInHeld 30 = false := by kernel_rfl
  have u3 := Try.underlying9
  have a3 := Try.isAgg9
  have z3 := Try.sizeOf9
  have u4 := Try.underlying28
  have a4 := Try.isAgg28
  have z4 := Try.sizeOf28
  have u5 := Try.underlying2
  have a5 := Try.isAgg2
  have z5 := Try.sizeOf2
  rw [run_equalIn_agg w (k + 1) _ _ _ hu hp]
  simp only [Program.fieldsOf, Try.underlying30]
  unfold waEq
  go_simp
  by_cases h1 : a = d <;> by_cases h2 : b = e <;> by_cases h3 : c.toList = f.toList <;> simp [h1, h2, h3]

theorem eqWaV (x y : WaT) (w : World) : (binOp .eql 30 (.agg (waCs x)) (.agg (waCs y))).run Try.prog w = .ok (.bool (waEq x y)) w := by
  rw [run_eql_struct, show (10000 : Nat) = 9998 + 1 + 1 from rfl, eqWaG 9998 x y w]
  rfl

theorem chkWa (e : Bool) (x : WaT) (w : World) : (Instr.checkKey e 10000 30 (.agg (waCs x))).run Try.prog w = .ok () w := by kernel_rfl

/-- What a watch is for: the value that the board keeps of it. -/
def wishT (k : Int) : TypeId := if k = 1 then 61 else if k = 2 then 62 else if k = 3 then 63 else 64
def wishV (x : WaT) : Value := .iface (wishT x.2.1) (.agg #[.string x.2.2])

/-- A map's entries are these watches', in this order. -/
def Ents (es : List MapEntry) (l : List WaT) : Prop := es.map (fun e => (e.key, e.val)) = l.map (fun x => (Value.agg (waCs x), wishV x))

theorem Ents.len {es : List MapEntry} {l : List WaT} (h : Ents es l) : es.length = l.length := by
  have := congrArg List.length h
  simpa using this

theorem ask_none (y : WaT) (w : World) : ∀ (es : List MapEntry) (l : List WaT) (i : Nat), Ents es l → y ∉ l → (Instr.findAsking 30 (.agg (waCs y)) es i).run Try.prog w = .ok none w
  | [], _, _, _, _ => rfl
  | e :: es, [], i, h, _ => by simp [Ents] at h
  | e :: es, x :: l, i, h, hn => by
    simp only [Ents, List.map_cons, List.cons.injEq, Prod.mk.injEq] at h
    have hx : waEq y x = false := waEq_ne (fun e => hn (by rw [e]; simp))
    have he : (Op.equal 30 (.agg (waCs y)) e.key).run Try.prog w = .ok false w := by
      rw [h.1.1]
      have := eqWaG 9998 y x w
      rw [hx] at this
      exact this
    unfold Instr.findAsking
    simp only [Sem.run_bind, he, Result.andThen_ok, Bool.false_eq_true, if_false]
    exact ask_none y w es l (i + 1) h.2 (fun hm => hn (by simp [hm]))

theorem ask_some (y : WaT) (w : World) : ∀ (es : List MapEntry) (a b : List WaT) (i : Nat), Ents es (a ++ y :: b) → y ∉ a → (Instr.findAsking 30 (.agg (waCs y)) es i).run Try.prog w = .ok (some (i + a.length, wishV y)) w
  | [], a, b, _, h, _ => by have := Ents.len h; simp at this
  | e :: es, [], b, i, h, _ => by
    simp only [Ents, List.nil_append, List.map_cons, List.cons.injEq, Prod.mk.injEq] at h
    have he : (Op.equal 30 (.agg (waCs y)) e.key).run Try.prog w = .ok true w := by
      rw [h.1.1]
      have := eqWaG 9998 y y w
      rw [waEq_self] at this
      exact this
    unfold Instr.findAsking
    simp only [Sem.run_bind, he, Result.andThen_ok, if_true, h.1.2]
    rfl
  | e :: es, x :: a, b, i, h, hn => by
    simp only [Ents, List.cons_append, List.map_cons, List.cons.injEq, Prod.mk.injEq] at h
    have hx : waEq y x = false := waEq_ne (fun e => hn (by rw [e]; simp))
    have he : (Op.equal 30 (.agg (waCs y)) e.key).run Try.prog w = .ok false w := by
      rw [h.1.1]
      have := eqWaG 9998 y x w
      rw [hx] at this
      exact this
    unfold Instr.findAsking
    simp only [Sem.run_bind, he, Result.andThen_ok, Bool.false_eq_true, if_false]
    rw [ask_some y w es a b (i + 1) h.2 (fun hm => hn (by simp [hm]))]
    simp only [List.length_cons]
    rw [show i + 1 + a.length = i + (a.length + 1) by omega]

theorem now_none (y : WaT) (es : List MapEntry) : Instr.findNow (.struct (Try.prog.fieldsOf 30)) (.agg (waCs y)) es 0 = if es = [] then some none else none := by
  cases es with
  | nil => rfl
  | cons e es => simp [Instr.findNow, Instr.sameNow]

theorem find_is (y : WaT) (es : List MapEntry) (w : World) : (Instr.findKey 30 (.agg (waCs y)) es).run Try.prog w = (Instr.findAsking 30 (.agg (waCs y)) es).run Try.prog w := by
  have hu : Try.prog.underlying 30 = some (.struct (Try.prog.fieldsOf 30)) := by kernel_rfl
  have hr : (underlying 30).run Try.prog w = .ok (.struct (Try.prog.fieldsOf 30)) w := run_underlying hu w
  unfold Instr.findKey
  simp only [Sem.run_bind, hr, Result.andThen_ok, now_none]
  by_cases h : es = []
  · subst h; rfl
  · rw [if_neg h]

/-- A block is a map with these watches. -/
def Mp (w : World) (m : Nat) (l : List WaT) : Prop := ∃ es clock, w.heap[m]? = some (.map es clock) ∧ Ents es.toList l

theorem Mp.kept {w w' : World} {S : Nat → Prop} {m : Nat} {l : List WaT} (h : Mp w m l) (hk : Kept w w' S) (hn : ¬ S m) : Mp w' m l := by
  obtain ⟨es, c, h1, h2⟩ := h
  exact ⟨es, c, hk.heap h1 hn, h2⟩
theorem Mp.lt {w : World} {m : Nat} {l : List WaT} (h : Mp w m l) : m < w.heap.size := by
  obtain ⟨es, c, h1, h2⟩ := h
  exact lt_of_block h1

theorem Try.zeroWish (w : World) : (zeroValue 54).run Try.prog w = .ok .nilIface w := by kernel_rfl

theorem look_none {w : World} {m : Nat} {l : List WaT} (h : Mp w m l) {y : WaT} (hy : y ∉ l) (c : Bool) :
    (Instr.lookup 49 (.map (some m)) (.agg (waCs y)) c).run Try.prog w = .ok (if c then .tuple #[.nilIface, .bool false] else .nilIface) w := by
  obtain ⟨es, clock, hb, he⟩ := h
  unfold Instr.lookup
  simp only [Sem.run_bind, run_underlying Try.underlying49, MapKept.run_getObj_map hb, Result.andThen_ok, Sem.run_pure, chkWa, find_is, ask_none y w es.toList l 0 he hy, Try.zeroWish]

theorem look_some {w : World} {m : Nat} {a b : List WaT} {y : WaT} (h : Mp w m (a ++ y :: b)) (hy : y ∉ a) (c : Bool) :
    (Instr.lookup 49 (.map (some m)) (.agg (waCs y)) c).run Try.prog w = .ok (if c then .tuple #[wishV y, .bool true] else wishV y) w := by
  obtain ⟨es, clock, hb, he⟩ := h
  unfold Instr.lookup
  simp only [Sem.run_bind, run_underlying Try.underlying49, MapKept.run_getObj_map hb, Result.andThen_ok, Sem.run_pure, chkWa, find_is, ask_some y w es.toList a b 0 he hy]

theorem heap_put {w : World} {m : Nat} {o o' : Obj} (h : w.heap[m]? = some o) : ({ w with heap := w.heap.setIfInBounds m o' } : World).heap[m]? = some o' := by
  simp [lt_of_block h]
theorem kept_put (w : World) (m : Nat) (o' : Obj) : Kept w { w with heap := w.heap.setIfInBounds m o' } (fun k => k = m) :=
  ⟨rfl, rfl, rfl, by simp, fun k _ hn => by rw [Array.getElem?_setIfInBounds, if_neg (fun e => hn (Eq.symm e))]⟩

theorem store_none {w : World} {m : Nat} {l : List WaT} (h : Mp w m l) {y : WaT} (hy : y ∉ l) :
    ∃ w', (Instr.mapUpdate 49 (.map (some m)) (.agg (waCs y)) (wishV y)).run Try.prog w = .ok () w' ∧ Mp w' m (l ++ [y]) ∧ Kept w w' (fun k => k = m) := by
  obtain ⟨es, clock, hb, he⟩ := h
  refine ⟨_, ?_, ⟨es.push { key := .agg (waCs y), val := wishV y, born := clock }, clock + 1, heap_put hb, ?_⟩, kept_put _ _ _⟩
  · unfold Instr.mapUpdate
    simp only [Sem.run_bind, run_underlying Try.underlying49, MapKept.run_getObj_map hb, Result.andThen_ok, chkWa, find_is, ask_none y w es.toList l 0 he hy, MapKept.run_setObj_map _ hb]
  · unfold Ents at he ⊢
    rw [Array.toList_push, List.map_append, he]
    simp

theorem map_strike {α β : Type} (f : α → β) : ∀ (l : List α) (j : Nat), (l.eraseIdx j).map f = (l.map f).eraseIdx j
  | [], _ => by simp
  | _ :: _, 0 => by simp
  | a :: r, j + 1 => by simp [map_strike f r j]

theorem strike_some {w : World} {m : Nat} {a b : List WaT} {y : WaT} (ty : TypeId) (h : Mp w m (a ++ y :: b)) (hy : y ∉ a) :
    ∃ w', (Builtin.delete_ #[49, 30] ty #[.map (some m), .agg (waCs y)]).run Try.prog w = .ok (.tuple #[]) w' ∧ Mp w' m (a ++ b) ∧ Kept w w' (fun k => k = m) := by
  obtain ⟨es, clock, hb, he⟩ := h
  refine ⟨_, ?_, ⟨es.eraseIdxIfInBounds a.length, clock, heap_put hb, ?_⟩, kept_put _ _ _⟩
  · unfold Builtin.delete_
    simp only [List.getElem?_toArray, List.getElem?_cons_zero, List.getElem?_cons_succ, Sem.run_bind, run_underlying Try.underlying49, MapKept.run_getObj_map hb, Result.andThen_ok, Sem.run_pure, chkWa, find_is, ask_some y w es.toList a b 0 he hy, MapKept.run_setObj_map _ hb, Nat.zero_add]
  · have hl := he.len
    unfold Ents at he ⊢
    rw [show (es.eraseIdxIfInBounds a.length).toList = es.toList.eraseIdx a.length by
      unfold Array.eraseIdxIfInBounds
      split
      · simp
      · rename_i hh
        simp at hl
        omega]
    rw [map_strike, he, ← map_strike, List.eraseIdx_append_of_length_le (Nat.le_refl _)]
    simp

theorem clear_map {w : World} {m : Nat} {l : List WaT} (ty : TypeId) (h : Mp w m l) :
    ∃ w', (Builtin.clear_ #[49] ty #[.map (some m)]).run Try.prog w = .ok (.tuple #[]) w' ∧ Mp w' m [] ∧ Kept w w' (fun k => k = m) := by
  obtain ⟨es, clock, hb, he⟩ := h
  refine ⟨_, ?_, ⟨#[], clock, heap_put hb, rfl⟩, kept_put _ _ _⟩
  unfold Builtin.clear_
  simp only [List.getElem?_toArray, List.getElem?_cons_zero, Sem.run_bind, run_underlying Try.underlying49, MapKept.run_getObj_map hb, Result.andThen_ok, Sem.run_pure, MapKept.run_setObj_map _ hb]

end Go.Proofs.Ytgdbcdddcejehaa
