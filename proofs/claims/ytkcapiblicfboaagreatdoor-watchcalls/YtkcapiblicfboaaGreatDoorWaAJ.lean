/- Plain facts on the bytes of paths: what a text's first code point is, the place of the first one that may not stand, and how both fall apart at a slash. No Go function is walked here. -/
import Derived.WalkKit
import Derived.Test.YtkcapiblicfboaaGreatDoorChecked
import Derived.Test.YtkcapiblicfboaaGreatDoorMemJ
import Derived.DeepKeys
import Derived.MapKept
import Derived.Shelf.Abstract
import Derived.Lib.Strings
namespace Go.Proofs.YtkcapiblicfboaaGreatDoor
open Go.RowKit
set_option maxRecDepth 8000

abbrev Bs := List UInt8

/-- The first code point of a text and its width, as a range over the text tells it. -/
def dec (l : Bs) : Nat × Nat :=
  let at' (k : Nat) : Nat := (l.getD k 0).toNat
  let cont (k : Nat) : Bool := k < l.length && at' k / 64 == 2
  let b0 := at' 0
  if b0 < 0x80 then (b0, 1)
  else if b0 / 32 == 6 && cont 1 then
    let c := (b0 % 32) * 64 + at' 1 % 64
    if c ≥ 0x80 then (c, 2) else (0xFFFD, 1)
  else if b0 / 16 == 14 && cont 1 && cont 2 then
    let c := (b0 % 16) * 4096 + (at' 1 % 64) * 64 + at' 2 % 64
    if c ≥ 0x800 && Utf8.valid c then (c, 3) else (0xFFFD, 1)
  else if b0 / 8 == 30 && cont 1 && cont 2 && cont 3 then
    let c := (b0 % 8) * 262144 + (at' 1 % 64) * 4096 + (at' 2 % 64) * 64 + at' 3 % 64
    if c ≥ 0x10000 && Utf8.valid c then (c, 4) else (0xFFFD, 1)
  else (0xFFFD, 1)

theorem get_drop (s : ByteArray) (i k : Nat) : s.get! (i + k) = (s.data.toList.drop i).getD k 0 := by
  cases s with
  | mk d =>
    show d[i + k]! = _
    rw [List.getD_eq_getElem?_getD, List.getElem?_drop, Array.getElem?_toList, getElem!_def]
    cases d[i + k]? <;> rfl

theorem size_list (s : ByteArray) : s.size = s.data.toList.length := by rw [Array.length_toList]; rfl

theorem decode_dec (s : ByteArray) (i : Nat) : Utf8.decode s i = dec (s.data.toList.drop i) := by
  have h : ∀ k, decide (i + k < s.size) = decide (k < (s.data.toList.drop i).length) := fun k => by
    simp only [decide_eq_decide, List.length_drop, size_list]; omega
  simp only [Utf8.decode, dec, get_drop, h, Utf8.runeError]

theorem dec_width (l : Bs) (hl : l ≠ []) : 1 ≤ (dec l).2 ∧ (dec l).2 ≤ l.length := by
  have h0 : 0 < l.length := List.length_pos_iff.2 hl
  unfold dec
  simp only
  split
  · exact ⟨Nat.le_refl _, h0⟩
  · split
    · rename_i h; simp only [Bool.and_eq_true, decide_eq_true_eq] at h
      split <;> simp only <;> omega
    · split
      · rename_i h; simp only [Bool.and_eq_true, decide_eq_true_eq] at h
        split <;> simp only <;> omega
      · split
        · rename_i h; simp only [Bool.and_eq_true, decide_eq_true_eq] at h
          split <;> simp only <;> omega
        · simp only; omega

theorem dec_ascii (b : UInt8) (c : Bs) (h : b.toNat < 128) : dec (b :: c) = (b.toNat, 1) := by
  simp [dec, h]

theorem getD_app (a c : Bs) (k : Nat) (h : k < a.length) : (a ++ c).getD k 0 = a.getD k 0 := by
  simp [List.getD_eq_getElem?_getD, List.getElem?_append_left h]

theorem getD_mid (a c : Bs) (b : UInt8) : (a ++ b :: c).getD a.length 0 = b := by
  simp [List.getD_eq_getElem?_getD]

theorem dec_app (a c : Bs) (b : UInt8) (ha : a ≠ []) (h : b.toNat < 128) : dec (a ++ b :: c) = dec a := by
  have h0 : 0 < a.length := List.length_pos_iff.2 ha
  have e0 := getD_app a (b :: c) 0 h0
  have hn : (b.toNat / 64 == 2) = false := by
    have : ¬ b.toNat / 64 = 2 := by omega
    simpa using this
  unfold dec
  simp only [List.length_append, List.length_cons, e0]
  by_cases h1 : a.length = 1
  · have e1 := getD_mid a c b
    rw [h1] at e1
    simp only [e1, hn, h1]
    simp
  · have g1 : 1 < a.length := by omega
    have e1 := getD_app a (b :: c) 1 g1
    have d1 : 1 < a.length + (c.length + 1) := by omega
    by_cases h2 : a.length = 2
    · have e2 := getD_mid a c b
      rw [h2] at e2
      simp only [e1, e2, hn, h2]
      simp
      have : 1 < 2 + (c.length + 1) := by omega
      simp [this]
    · have g2 : 2 < a.length := by omega
      have e2 := getD_app a (b :: c) 2 g2
      have d2 : 2 < a.length + (c.length + 1) := by omega
      by_cases h3 : a.length = 3
      · have e3 := getD_mid a c b
        rw [h3] at e3
        simp only [e1, e2, e3, hn, h3]
        have q1 : 1 < 3 + (c.length + 1) := by omega
        have q2 : 2 < 3 + (c.length + 1) := by omega
        simp [q1, q2]
      · have g3 : 3 < a.length := by omega
        have e3 := getD_app a (b :: c) 3 g3
        have d3 : 3 < a.length + (c.length + 1) := by omega
        simp only [e1, e2, e3, g1, g2, g3, d1, d2, d3]

/-- May this code point stand in a path? -/
def stand (r : Nat) : Bool := 0x1F < r && (r < 0x7F || 0x9F < r) && (r < 0xE000 || 0xF8FF < r) && (r < 0xFFF0 || 0xFFFF < r)

/-- The place of the first code point that may not stand. -/
def rf (l : Bs) : Option Nat :=
  if _h : l = [] then none
  else if stand (dec l).1 then (rf (l.drop (dec l).2)).map (· + (dec l).2) else some 0
termination_by l.length
decreasing_by
  have := dec_width l ‹_›
  rw [List.length_drop]
  omega

theorem rf_nil : rf [] = none := by rw [rf]; simp
theorem rf_cons {l : Bs} (h : l ≠ []) : rf l = if stand (dec l).1 then (rf (l.drop (dec l).2)).map (· + (dec l).2) else some 0 := by
  rw [rf]; simp [h]

theorem rf_ascii (b : UInt8) (c : Bs) (h : b.toNat < 128) (hs : stand b.toNat = true) : rf (b :: c) = (rf c).map (· + 1) := by
  rw [rf_cons (by simp), dec_ascii b c h]
  simp [hs]

theorem rf_app (n : Nat) : ∀ (a c : Bs) (b : UInt8), a.length ≤ n → b.toNat < 128 → stand b.toNat = true →
    rf (a ++ b :: c) = match rf a with | some k => some k | none => (rf c).map (· + (a.length + 1)) := by
  induction n with
  | zero =>
    intro a c b ha hb hs
    have : a = [] := List.eq_nil_of_length_eq_zero (by omega)
    subst this
    rw [rf_nil, List.nil_append, rf_ascii b c hb hs]
    rfl
  | succ n ih =>
    intro a c b ha hb hs
    by_cases h0 : a = []
    · subst h0
      rw [rf_nil, List.nil_append, rf_ascii b c hb hs]
      rfl
    · have hw := dec_width a h0
      rw [rf_cons (l := a ++ b :: c) (by simp), rf_cons h0, dec_app a c b h0 hb]
      split
      · rw [List.drop_append_of_le_length hw.2, ih _ c b (by rw [List.length_drop]; omega) hb hs]
        cases hr : rf (a.drop (dec a).2) with
        | some k => rfl
        | none =>
          simp only [Option.map_none, Option.map_map]
          congr 1
          funext x
          simp only [Function.comp, List.length_drop]
          omega
      · rfl

theorem rf_lt (n : Nat) : ∀ (l : Bs) (k : Nat), l.length ≤ n → rf l = some k → k < l.length := by
  induction n with
  | zero =>
    intro l k hl h
    have : l = [] := List.eq_nil_of_length_eq_zero (by omega)
    subst this
    rw [rf_nil] at h; simp at h
  | succ n ih =>
    intro l k hl h
    by_cases h0 : l = []
    · subst h0; rw [rf_nil] at h; simp at h
    · have hw := dec_width l h0
      rw [rf_cons h0] at h
      split at h
      · cases hr : rf (l.drop (dec l).2) with
        | none => rw [hr] at h; simp at h
        | some j =>
          rw [hr] at h
          simp at h
          have := ih _ j (by rw [List.length_drop]; omega) hr
          rw [List.length_drop] at this
          omega
      · simp at h; omega

end Go.Proofs.YtkcapiblicfboaaGreatDoor

/- Watches in memory, and a map whose keys are watches: a look, a store, a delete, held against a list; no Go function is walked here. -/
namespace Go.Proofs.YtkcapiblicfboaaGreatDoor
open Go.RowKit Go.Shelf
set_option maxRecDepth 8000

/-- A watch: its client, its kind, its path. -/
abbrev WaT := Int × Int × ByteArray
/-- A change: its kind, its path. -/
abbrev ChT := Int × ByteArray
abbrev waCs (x : WaT) : Array Value := #[.int .i64 x.1, .int .i8 x.2.1, .string x.2.2]
abbrev chCs (x : ChT) : Array Value := #[.int .i8 x.1, .string x.2]
def waEq (x y : WaT) : Bool := (x.1 == y.1) && ((x.2.1 == y.2.1) && (x.2.2.toList == y.2.2.toList))

theorem toList_inj {a b : ByteArray} (h : a.toList = b.toList) : a = b := by
  rw [Lib.toList_data, Lib.toList_data] at h
  exact ByteArray.ext (Array.toList_inj.1 h)

theorem waEq_iff (x y : WaT) : waEq x y = true ↔ x = y := by
  obtain ⟨a, b, c⟩ := x
  obtain ⟨d, e, f⟩ := y
  unfold waEq
  simp only [Bool.and_eq_true, beq_iff_eq, Prod.mk.injEq]
  exact ⟨fun h => ⟨h.1, h.2.1, toList_inj h.2.2⟩, fun h => ⟨h.1, h.2.1, by rw [h.2.2]⟩⟩

theorem waEq_self (x : WaT) : waEq x x = true := (waEq_iff x x).2 rfl
theorem waEq_ne {x y : WaT} (h : x ≠ y) : waEq x y = false := by
  cases hh : waEq x y
  · rfl
  · exact absurd ((waEq_iff x y).1 hh) h

theorem eqWaG (k : Nat) (x y : WaT) (w : World) : (Op.equalIn (k + 1 + 1) 57 (.agg (waCs x)) (.agg (waCs y))).run Tryz.prog w = .ok (waEq x y) w := by
  obtain ⟨a, b, c⟩ := x
  obtain ⟨d, e, f⟩ := y
  have hu : Tryz.prog.underlying 57 = some (.struct (Tryz.prog.fieldsOf 57)) := by kernel_rfl
  have hp : Tryz.prog.stoodInHeld 57 = false := by kernel_rfl
  have u3 := Tryz.underlying9
  have a3 := Tryz.isAgg9
  have z3 := Tryz.sizeOf9
  have u4 := Tryz.underlying55
  have a4 := Tryz.isAgg55
  have z4 := Tryz.sizeOf55
  have u5 := Tryz.underlying2
  have a5 := Tryz.isAgg2
  have z5 := Tryz.sizeOf2
  rw [run_equalIn_agg w (k + 1) _ _ _ hu hp]
  simp only [Program.fieldsOf, Tryz.underlying57]
  unfold waEq
  go_simp
  by_cases h1 : a = d <;> by_cases h2 : b = e <;> by_cases h3 : c.toList = f.toList <;> simp [h1, h2, h3]

theorem eqWaV (x y : WaT) (w : World) : (binOp .eql 57 (.agg (waCs x)) (.agg (waCs y))).run Tryz.prog w = .ok (.bool (waEq x y)) w := by
  rw [run_eql_struct, show (10000 : Nat) = 9998 + 1 + 1 from rfl, eqWaG 9998 x y w]
  rfl

theorem chkWa (e : Bool) (x : WaT) (w : World) : (Instr.checkKey e 10000 57 (.agg (waCs x))).run Tryz.prog w = .ok () w := by kernel_rfl

/-- What a watch is for: the value that the board keeps of it. -/
def wishT (k : Int) : TypeId := if k = 1 then 190 else if k = 2 then 191 else if k = 3 then 192 else 193
def wishV (x : WaT) : Value := .iface (wishT x.2.1) (.agg #[.string x.2.2])

/-- A map's entries are these watches', in this order. -/
def Ents (es : List MapEntry) (l : List WaT) : Prop := es.map (fun e => (e.key, e.val)) = l.map (fun x => (Value.agg (waCs x), wishV x))

theorem Ents.len {es : List MapEntry} {l : List WaT} (h : Ents es l) : es.length = l.length := by
  have := congrArg List.length h
  simpa using this

theorem ask_none (y : WaT) (w : World) : ∀ (es : List MapEntry) (l : List WaT) (i : Nat), Ents es l → y ∉ l → (Instr.findAsking 57 (.agg (waCs y)) es i).run Tryz.prog w = .ok none w
  | [], _, _, _, _ => rfl
  | e :: es, [], i, h, _ => by simp [Ents] at h
  | e :: es, x :: l, i, h, hn => by
    simp only [Ents, List.map_cons, List.cons.injEq, Prod.mk.injEq] at h
    have hx : waEq y x = false := waEq_ne (fun e => hn (by rw [e]; simp))
    have he : (Op.equal 57 (.agg (waCs y)) e.key).run Tryz.prog w = .ok false w := by
      rw [h.1.1]
      have := eqWaG 9998 y x w
      rw [hx] at this
      exact this
    unfold Instr.findAsking
    simp only [Sem.run_bind, he, Result.andThen_ok, Bool.false_eq_true, if_false]
    exact ask_none y w es l (i + 1) h.2 (fun hm => hn (by simp [hm]))

theorem ask_some (y : WaT) (w : World) : ∀ (es : List MapEntry) (a b : List WaT) (i : Nat), Ents es (a ++ y :: b) → y ∉ a → (Instr.findAsking 57 (.agg (waCs y)) es i).run Tryz.prog w = .ok (some (i + a.length, wishV y)) w
  | [], a, b, _, h, _ => by have := Ents.len h; simp at this
  | e :: es, [], b, i, h, _ => by
    simp only [Ents, List.nil_append, List.map_cons, List.cons.injEq, Prod.mk.injEq] at h
    have he : (Op.equal 57 (.agg (waCs y)) e.key).run Tryz.prog w = .ok true w := by
      rw [h.1.1]
      have := eqWaG 9998 y y w
      rw [waEq_self] at this
      exact this
    unfold Instr.findAsking
    simp only [Sem.run_bind, he, Result.andThen_ok, if_true, h.1.2]
    rfl
  | e :: es, x :: a, b, i, h, hn => by
    simp only [Ents, List.cons_append, List.map_cons, List.cons.injEq, Prod.mk.injEq] at h
    have hx : waEq y x = false := waEq_ne (fun e => hn (by rw [e]; simp))
    have he : (Op.equal 57 (.agg (waCs y)) e.key).run Tryz.prog w = .ok false w := by
      rw [h.1.1]
      have := eqWaG 9998 y x w
      rw [hx] at this
      exact this
    unfold Instr.findAsking
    simp only [Sem.run_bind, he, Result.andThen_ok, Bool.false_eq_true, if_false]
    rw [ask_some y w es a b (i + 1) h.2 (fun hm => hn (by simp [hm]))]
    simp only [List.length_cons]
    rw [show i + 1 + a.length = i + (a.length + 1) by omega]

theorem now_none (y : WaT) (es : List MapEntry) : Instr.findNow (.struct (Tryz.prog.fieldsOf 57)) (.agg (waCs y)) es 0 = if es = [] then some none else none := by
  cases es with
  | nil => rfl
  | cons e es => simp [Instr.findNow, Instr.sameNow]

theorem find_is (y : WaT) (es : List MapEntry) (w : World) : (Instr.findKey 57 (.agg (waCs y)) es).run Tryz.prog w = (Instr.findAsking 57 (.agg (waCs y)) es).run Tryz.prog w := by
  have hu : Tryz.prog.underlying 57 = some (.struct (Tryz.prog.fieldsOf 57)) := by kernel_rfl
  have hr : (underlying 57).run Tryz.prog w = .ok (.struct (Tryz.prog.fieldsOf 57)) w := run_underlying hu w
  unfold Instr.findKey
  simp only [Sem.run_bind, hr, Result.andThen_ok, now_none]
  by_cases h : es = []
  · subst h; rfl
  · rw [if_neg h]

/-- A block is a map with these watches. -/
def Mp (w : World) (m : Nat) (l : List WaT) : Prop := ∃ es clock, w.heap[m]? = some (.map es clock) ∧ Ents es.toList l

theorem Mp.kept {w w' : World} {S : Nat → Prop} {m : Nat} {l : List WaT} (h : Mp w m l) (hk : Kept w w' S) (hn : ¬ S m) : Mp w' m l := by
  obtain ⟨es, c, h1, h2⟩ := h
  exact ⟨es, c, hk.heap h1 hn, h2⟩
theorem Mp.lt {w : World} {m : Nat} {l : List WaT} (h : Mp w m l) : m < w.heap.size := by
  obtain ⟨es, c, h1, h2⟩ := h
  exact lt_of_block h1

theorem Tryz.zeroWish (w : World) : (zeroValue 108).run Tryz.prog w = .ok .nilIface w := by kernel_rfl

theorem look_none {w : World} {m : Nat} {l : List WaT} (h : Mp w m l) {y : WaT} (hy : y ∉ l) (c : Bool) :
    (Instr.lookup 78 (.map (some m)) (.agg (waCs y)) c).run Tryz.prog w = .ok (if c then .tuple #[.nilIface, .bool false] else .nilIface) w := by
  obtain ⟨es, clock, hb, he⟩ := h
  unfold Instr.lookup
  simp only [Sem.run_bind, run_underlying Tryz.underlying78, MapKept.run_getObj_map hb, Result.andThen_ok, Sem.run_pure, chkWa, find_is, ask_none y w es.toList l 0 he hy, Tryz.zeroWish]

theorem look_some {w : World} {m : Nat} {a b : List WaT} {y : WaT} (h : Mp w m (a ++ y :: b)) (hy : y ∉ a) (c : Bool) :
    (Instr.lookup 78 (.map (some m)) (.agg (waCs y)) c).run Tryz.prog w = .ok (if c then .tuple #[wishV y, .bool true] else wishV y) w := by
  obtain ⟨es, clock, hb, he⟩ := h
  unfold Instr.lookup
  simp only [Sem.run_bind, run_underlying Tryz.underlying78, MapKept.run_getObj_map hb, Result.andThen_ok, Sem.run_pure, chkWa, find_is, ask_some y w es.toList a b 0 he hy]

theorem heap_put {w : World} {m : Nat} {o o' : Obj} (h : w.heap[m]? = some o) : ({ w with heap := w.heap.setIfInBounds m o' } : World).heap[m]? = some o' := by
  simp [lt_of_block h]
theorem kept_put (w : World) (m : Nat) (o' : Obj) : Kept w { w with heap := w.heap.setIfInBounds m o' } (fun k => k = m) :=
  ⟨rfl, rfl, rfl, by simp, fun k _ hn => by rw [Array.getElem?_setIfInBounds, if_neg (fun e => hn (Eq.symm e))]⟩

theorem store_none {w : World} {m : Nat} {l : List WaT} (h : Mp w m l) {y : WaT} (hy : y ∉ l) :
    ∃ w', (Instr.mapUpdate 78 (.map (some m)) (.agg (waCs y)) (wishV y)).run Tryz.prog w = .ok () w' ∧ Mp w' m (l ++ [y]) ∧ Kept w w' (fun k => k = m) := by
  obtain ⟨es, clock, hb, he⟩ := h
  refine ⟨_, ?_, ⟨es.push { key := .agg (waCs y), val := wishV y, born := clock }, clock + 1, heap_put hb, ?_⟩, kept_put _ _ _⟩
  · unfold Instr.mapUpdate
    simp only [Sem.run_bind, run_underlying Tryz.underlying78, MapKept.run_getObj_map hb, Result.andThen_ok, chkWa, find_is, ask_none y w es.toList l 0 he hy, MapKept.run_setObj_map _ hb]
  · unfold Ents at he ⊢
    rw [Array.toList_push, List.map_append, he]
    simp

theorem map_strike {α β : Type} (f : α → β) : ∀ (l : List α) (j : Nat), (l.eraseIdx j).map f = (l.map f).eraseIdx j
  | [], _ => by simp
  | _ :: _, 0 => by simp
  | a :: r, j + 1 => by simp [map_strike f r j]

theorem strike_some {w : World} {m : Nat} {a b : List WaT} {y : WaT} (ty : TypeId) (h : Mp w m (a ++ y :: b)) (hy : y ∉ a) :
    ∃ w', (Builtin.delete_ #[78, 57] ty #[.map (some m), .agg (waCs y)]).run Tryz.prog w = .ok (.tuple #[]) w' ∧ Mp w' m (a ++ b) ∧ Kept w w' (fun k => k = m) := by
  obtain ⟨es, clock, hb, he⟩ := h
  refine ⟨_, ?_, ⟨es.eraseIdxIfInBounds a.length, clock, heap_put hb, ?_⟩, kept_put _ _ _⟩
  · unfold Builtin.delete_
    simp only [List.getElem?_toArray, List.getElem?_cons_zero, List.getElem?_cons_succ, Sem.run_bind, run_underlying Tryz.underlying78, MapKept.run_getObj_map hb, Result.andThen_ok, Sem.run_pure, chkWa, find_is, ask_some y w es.toList a b 0 he hy, MapKept.run_setObj_map _ hb, Nat.zero_add]
  · have hl := he.len
    unfold Ents at he ⊢
    rw [show (es.eraseIdxIfInBounds a.length).toList = es.toList.eraseIdx a.length by
      unfold Array.eraseIdxIfInBounds
      split
      · simp
      · rename_i hh
        simp at hl
        omega]
    rw [map_strike, he, ← map_strike, List.eraseIdx_append_of_length_le (Nat.le_refl _)]
    simp

theorem clear_map {w : World} {m : Nat} {l : List WaT} (ty : TypeId) (h : Mp w m l) :
    ∃ w', (Builtin.clear_ #[78] ty #[.map (some m)]).run Tryz.prog w = .ok (.tuple #[]) w' ∧ Mp w' m [] ∧ Kept w w' (fun k => k = m) := by
  obtain ⟨es, clock, hb, he⟩ := h
  refine ⟨_, ?_, ⟨#[], clock, heap_put hb, rfl⟩, kept_put _ _ _⟩
  unfold Builtin.clear_
  simp only [List.getElem?_toArray, List.getElem?_cons_zero, Sem.run_bind, run_underlying Tryz.underlying78, MapKept.run_getObj_map hb, Result.andThen_ok, Sem.run_pure, MapKept.run_setObj_map _ hb]

end Go.Proofs.YtkcapiblicfboaaGreatDoor
