/- Pure facts on lists of entries: what Fix gives may be and stays; what a list allows it allows bit by bit, and never less with more. -/
import Derived.Test.YtgoiefhhbgollaaGreatDoorQcMJ
namespace Go.Proofs.YtgoiefhhbgollaaGreatDoor
open Go.RowKit Go.Shelf
set_option maxRecDepth 8000

theorem ba_list {a b : ByteArray} : (a.toList == b.toList) = true ↔ a = b := by
  rw [beq_iff_eq]
  exact ⟨fun h => ba_ext (by rw [← Lib.toList_data, ← Lib.toList_data]; exact h), fun h => by rw [h]⟩

theorem enEq_iff (x y : EnT) : enEq x y = true ↔ x = y := by
  obtain ⟨p, a, b⟩ := x
  obtain ⟨q, c, d⟩ := y
  unfold enEq
  rw [Bool.and_eq_true, Bool.and_eq_true, ba_list, ba_list, beq_iff_eq]
  simp

theorem idEq_iff (x y : IdT) : idEq x y = true ↔ x = y := by
  obtain ⟨a, b⟩ := x
  obtain ⟨c, d⟩ := y
  unfold idEq
  rw [Bool.and_eq_true, ba_list, ba_list]
  simp

theorem any_eq {α : Type} {eq : α → α → Bool} (he : ∀ x y, eq x y = true ↔ x = y) (l : List α) (x : α) : (l.any fun z => eq x z) = true ↔ x ∈ l := by
  rw [List.any_eq_true]
  exact ⟨fun ⟨z, hz, h⟩ => by rw [(he x z).1 h]; exact hz, fun h => ⟨x, h, (he x x).2 rfl⟩⟩

theorem lok_iff {α : Type} {ok : α → Bool} {eq : α → α → Bool} (he : ∀ x y, eq x y = true ↔ x = y) (l : List α) : ∀ i, i ≤ l.length → (lok ok eq l i = true ↔ (∀ x ∈ l.take i, ok x = true) ∧ (l.take i).Nodup)
  | 0, _ => by simp [lok]
  | i + 1, hi => by
    have hlt : i < l.length := hi
    rw [lok_step (List.getElem?_eq_getElem hlt), Bool.and_eq_true, lok_iff he l i (by omega), List.take_succ_eq_append_getElem hlt, Bool.and_eq_true, Bool.not_eq_true', List.nodup_append]
    have hn : ((l.take i).any fun z => eq l[i] z) = false ↔ l[i] ∉ l.take i := by
      rw [← any_eq he, Bool.not_eq_true]
    rw [hn]
    constructor
    · rintro ⟨⟨a, b⟩, c, d⟩
      refine ⟨fun x hx => ?_, b, by simp, fun x hx y hy e => ?_⟩
      · rcases List.mem_append.1 hx with h | h
        · exact a x h
        · rw [List.mem_singleton.1 h]; exact c
      · rw [List.mem_singleton.1 hy] at e
        rw [e] at hx
        exact d hx
    · rintro ⟨a, b, _, d⟩
      exact ⟨⟨fun x hx => a x (List.mem_append_left _ hx), b⟩, a _ (List.mem_append_right _ (List.mem_singleton.2 rfl)), fun h => d _ h _ (List.mem_singleton.2 rfl) rfl⟩

theorem enLs_iff (l : List EnT) : enLs l = true ↔ l.length ≤ 4 ∧ (∀ x ∈ l, enOk x = true) ∧ l.Nodup := by
  unfold enLs
  rw [Bool.and_eq_true, decide_eq_true_eq, lok_iff enEq_iff l l.length (Nat.le_refl _), List.take_length]

theorem idLs_iff (l : List IdT) : idLs l = true ↔ l.length ≤ 4 ∧ (∀ x ∈ l, idOk x = true) ∧ l.Nodup := by
  unfold idLs
  rw [Bool.and_eq_true, decide_eq_true_eq, lok_iff idEq_iff l l.length (Nat.le_refl _), List.take_length]

theorem fxLs_iff (l : List EnT) : fxLs l = true ↔ enLs l = true ∧ 0 < l.length ∧ ∀ x ∈ l, isAu x = false := by
  unfold fxLs
  rw [Bool.and_eq_true, Bool.and_eq_true, decide_eq_true_eq, Bool.not_eq_true', List.any_eq_false]
  simp [and_assoc]

/-- One that everybody meets. -/
def evE : EnT := (31, worldB, anyB)

/-- A list as a node keeps it, the empty one too. -/
def fixA (l : List EnT) (who : List IdT) : Option (List EnT) := if l.length = 0 then (if idLs who then some [evE] else none) else fixL l who

theorem ev_fixed : fxLs [evE] = true := by kernel_rfl

/-- What a list under way keeps to. -/
def Keeps (a : List EnT) : Prop := a.Nodup ∧ ∀ x ∈ a, enOk x = true ∧ isAu x = false

theorem putL_keeps {a : List EnT} {x : EnT} (h : Keeps a) (h1 : enOk x = true) (h2 : isAu x = false) : Keeps (putL a x) := by
  unfold putL
  split
  · exact h
  · rename_i hn
    rw [any_eq enEq_iff] at hn
    refine ⟨List.nodup_append.2 ⟨h.1, by simp, fun y hy z hz e => ?_⟩, fun y hy => ?_⟩
    · rw [List.mem_singleton.1 hz] at e
      rw [e] at hy
      exact hn hy
    · rcases List.mem_append.1 hy with hy | hy
      · exact h.2 y hy
      · rw [List.mem_singleton.1 hy]; exact ⟨h1, h2⟩

theorem putL_more (a : List EnT) (x : EnT) : a.length ≤ (putL a x).length ∧ 0 < (putL a x).length := by
  unfold putL
  split
  · rename_i h
    rw [any_eq enEq_iff] at h
    exact ⟨Nat.le_refl _, List.length_pos_of_mem h⟩
  · simp

theorem name_ok {p : Int} {n : IdT} (hp : ¬ p = 0 ∧ 0 ≤ p ∧ p ≤ 31) (h1 : idOk n = true) (h2 : isNm n = true) : enOk (p, n.1, n.2) = true ∧ isAu (p, n.1, n.2) = false := by
  unfold isNm at h2
  have hs : n.1.toList = [110, 97, 109, 101] := beq_iff_eq.1 h2
  have hd : n.1.data.toList = sName := by rw [← Lib.toList_data]; exact hs
  unfold idOk clD at h1
  rw [hd, if_neg (by decide), decide_eq_true rfl, Bool.true_and] at h1
  constructor
  · unfold enOk enD
    dsimp only
    rw [hd, if_neg (by decide), if_neg (by decide), if_pos rfl, h1, decide_eq_true hp]
    rfl
  · unfold isAu
    dsimp only
    rw [hs]
    rfl

theorem putNs_keeps {names : List IdT} {p : Int} {acc : List EnT} (h : Keeps acc) (hp : ¬ p = 0 ∧ 0 ≤ p ∧ p ≤ 31) (hn : ∀ n ∈ names, idOk n = true ∧ isNm n = true) : ∀ j, j ≤ names.length → Keeps (putNs names p acc j) ∧ acc.length ≤ (putNs names p acc j).length ∧ (0 < j → 0 < (putNs names p acc j).length)
  | 0, _ => ⟨by simpa [putNs] using h, by simp [putNs], fun h => by omega⟩
  | j + 1, hj => by
    have hlt : j < names.length := hj
    obtain ⟨i1, i2, _⟩ := putNs_keeps h hp hn j (by omega)
    rw [putNs_step (List.getElem?_eq_getElem hlt)]
    obtain ⟨o1, o2⟩ := hn _ (List.getElem_mem hlt)
    obtain ⟨n1, n2⟩ := name_ok hp o1 o2
    obtain ⟨m1, m2⟩ := putL_more (putNs names p acc j) (p, names[j].1, names[j].2)
    exact ⟨putL_keeps i1 n1 n2, by omega, fun _ => m2⟩

theorem enOk_perm {x : EnT} (h : enOk x = true) : ¬ x.1 = 0 ∧ 0 ≤ x.1 ∧ x.1 ≤ 31 := by
  unfold enOk at h
  rw [Bool.and_eq_true, decide_eq_true_eq] at h
  exact h.1

theorem putAt_keeps {names : List IdT} {l : List EnT} (hl : ∀ x ∈ l, enOk x = true) (hn : ∀ n ∈ names, idOk n = true ∧ isNm n = true) (ha : l.any isAu = true → 0 < names.length) : ∀ i, i ≤ l.length → Keeps (putAt names l i) ∧ (0 < i → 0 < (putAt names l i).length)
  | 0, _ => ⟨by simp [putAt, Keeps], fun h => by omega⟩
  | i + 1, hi => by
    have hlt : i < l.length := hi
    obtain ⟨i1, i2⟩ := putAt_keeps hl hn ha i (by omega)
    rw [putAt_step (List.getElem?_eq_getElem hlt)]
    have hx := hl _ (List.getElem_mem hlt)
    unfold putOn
    split
    · rename_i hau
      obtain ⟨k1, k2, k3⟩ := putNs_keeps i1 (enOk_perm hx) hn names.length (Nat.le_refl _)
      exact ⟨k1, fun _ => k3 (ha (List.any_eq_true.2 ⟨_, List.getElem_mem hlt, hau⟩))⟩
    · rename_i hau
      exact ⟨putL_keeps i1 hx (by simpa using hau), fun _ => (putL_more _ _).2⟩

/-- What Fix gives may be, and has no auth in it. -/
theorem fixA_fixed {l f : List EnT} {who : List IdT} (h : fixA l who = some f) : fxLs f = true := by
  unfold fixA at h
  split at h
  · split at h
    · cases h; exact ev_fixed
    · cases h
  · rename_i hl0
    unfold fixL at h
    split at h
    · rename_i hc
      cases h
      rw [Bool.and_eq_true, Bool.and_eq_true, Bool.and_eq_true, Bool.not_eq_true', Bool.not_eq_true', decide_eq_false_iff_not, Bool.and_eq_false_iff, decide_eq_false_iff_not] at hc
      obtain ⟨⟨⟨c1, c2⟩, c3⟩, c4⟩ := hc
      obtain ⟨e1, e2, e3⟩ := (enLs_iff l).1 c1
      obtain ⟨d1, d2, d3⟩ := (idLs_iff who).1 c2
      obtain ⟨k1, k2⟩ := putAt_keeps (names := who.filter isNm) (l := l) e2 (fun n hn => by
        rw [List.mem_filter] at hn
        exact ⟨d2 n hn.1, hn.2⟩) (fun ha => by
        rcases c3 with c3 | c3
        · rw [ha] at c3; cases c3
        · omega) l.length (Nat.le_refl _)
      exact (fxLs_iff _).2 ⟨(enLs_iff _).2 ⟨by omega, fun x hx => (k1.2 x hx).1, k1.1⟩, k2 (by omega), fun x hx => (k1.2 x hx).2⟩
    · cases h

theorem putAt_self {names : List IdT} {f : List EnT} (hn : f.Nodup) (ha : ∀ x ∈ f, isAu x = false) : ∀ i, i ≤ f.length → putAt names f i = f.take i
  | 0, _ => by simp [putAt]
  | i + 1, hi => by
    have hlt : i < f.length := hi
    rw [putAt_step (List.getElem?_eq_getElem hlt), putAt_self hn ha i (by omega)]
    unfold putOn
    rw [if_neg (by rw [ha _ (List.getElem_mem hlt)]; decide)]
    unfold putL
    have hno : ¬ f[i] ∈ f.take i := by
      have h2 : (f.take (i + 1)).Nodup := hn.sublist (List.take_sublist _ _)
      rw [List.take_succ_eq_append_getElem hlt, List.nodup_append] at h2
      exact fun h => h2.2.2 _ h _ (List.mem_singleton.2 rfl) rfl
    rw [if_neg (by rw [any_eq enEq_iff]; exact hno), ← List.take_succ_eq_append_getElem hlt]

/-- Fix of what Fix gave. -/
theorem fixA_again {f : List EnT} {who : List IdT} (hf : fxLs f = true) (hw : idLs who = true) : fixA f who = some f := by
  obtain ⟨f1, f2, f3⟩ := (fxLs_iff f).1 hf
  obtain ⟨e1, e2, e3⟩ := (enLs_iff f).1 f1
  have hs := putAt_self (names := who.filter isNm) e3 f3 f.length (Nat.le_refl _)
  rw [List.take_length] at hs
  unfold fixA
  rw [if_neg (by omega)]
  unfold fixL
  have ha : f.any isAu = false := List.any_eq_false.2 (fun x hx => by rw [f3 x hx]; decide)
  rw [hs, f1, hw, ha, if_pos (by simp; omega)]

theorem putL_mem {a : List EnT} {x y : EnT} (h : x ∈ putL a y) : x ∈ a ∨ x = y := by
  unfold putL at h
  split at h
  · exact .inl h
  · rcases List.mem_append.1 h with h | h
    · exact .inl h
    · exact .inr (List.mem_singleton.1 h)

theorem putNs_mem {names : List IdT} {p : Int} {Q : IdT → Prop} (hn : ∀ n ∈ names, Q n) : ∀ (j : Nat) (acc : List EnT), (∀ x ∈ acc, Q x.2) → ∀ x ∈ putNs names p acc j, Q x.2
  | 0, acc, ha, x, hx => ha x (by simpa [putNs] using hx)
  | j + 1, acc, ha, x, hx => by
    cases h : names[j]? with
    | none =>
      have e : putNs names p acc (j + 1) = putNs names p acc j := by unfold putNs; rw [List.take_add_one, h]; simp
      rw [e] at hx
      exact putNs_mem hn j acc ha x hx
    | some n =>
      rw [putNs_step h] at hx
      rcases putL_mem hx with hx | rfl
      · exact putNs_mem hn j acc ha x hx
      · exact hn n (List.mem_of_getElem? h)

theorem putAt_mem {names : List IdT} {l : List EnT} {Q : IdT → Prop} (hl : ∀ x ∈ l, Q x.2) (hn : ∀ n ∈ names, Q n) : ∀ i, ∀ x ∈ putAt names l i, Q x.2
  | 0, x, hx => by simp [putAt] at hx
  | i + 1, x, hx => by
    cases h : l[i]? with
    | none =>
      have e : putAt names l (i + 1) = putAt names l i := by unfold putAt; rw [List.take_add_one, h]; simp
      rw [e] at hx
      exact putAt_mem hl hn i x hx
    | some y =>
      rw [putAt_step h] at hx
      unfold putOn at hx
      split at hx
      · exact putNs_mem hn _ _ (putAt_mem hl hn i) x hx
      · rcases putL_mem hx with hx | rfl
        · exact putAt_mem hl hn i x hx
        · exact hl x (List.mem_of_getElem? h)

/-- Whatever the ids of a list and of who made it keep to, those of what Fix gives keep to. -/
theorem fixA_mem {l f : List EnT} {who : List IdT} {Q : IdT → Prop} (hl : ∀ x ∈ l, Q x.2) (hw : ∀ x ∈ who, Q x) (he : Q (worldB, anyB)) (h : fixA l who = some f) : ∀ x ∈ f, Q x.2 := by
  unfold fixA at h
  split at h
  · split at h
    · cases h
      intro x hx
      rw [List.mem_singleton.1 hx]
      exact he
    · cases h
  · unfold fixL at h
    split at h
    · cases h
      exact putAt_mem hl (fun n hn => hw n (List.mem_filter.1 hn).1) _
    · cases h

/-- The bits of one number are among another's. -/
def sb (a b : Nat) : Prop := ∀ s : Fin 5, a.testBit s.1 = true → b.testBit s.1 = true

theorem or_bits : ∀ a b : Fin 32, bits .or .i8 (a.1 : Int) (b.1 : Int) = ((a.1 ||| b.1 : Nat) : Int) ∧ a.1 ||| b.1 < 32 := by decide +kernel
theorem andNot_bits : ∀ p g : Fin 32, (bits .andNot .i8 (p.1 : Int) (g.1 : Int) == 0) = decide (∀ s : Fin 5, p.1.testBit s.1 = true → g.1.testBit s.1 = true) := by decide +kernel

/-- All that a list gives, as a number. -/
def grN (who : List IdT) (l : List EnT) : Nat := l.foldl (fun p x => if hit who x then p ||| x.1.toNat else p) 0

theorem gr_fold (who : List IdT) : ∀ (l : List EnT), (∀ x ∈ l, enOk x = true) → ∀ p : Nat, p < 32 → l.foldl (fun p x => if hit who x then bits .or .i8 p x.1 else p) (p : Int) = ((l.foldl (fun p x => if hit who x then p ||| x.1.toNat else p) p : Nat) : Int) ∧ l.foldl (fun p x => if hit who x then p ||| x.1.toNat else p) p < 32
  | [], _, p, hp => ⟨rfl, hp⟩
  | x :: t, h, p, hp => by
    have hx := enOk_perm (h x (List.mem_cons_self ..))
    have ht := fun y hy => h y (List.mem_cons_of_mem _ hy)
    simp only [List.foldl_cons]
    by_cases hh : hit who x
    · rw [if_pos hh, if_pos hh]
      obtain ⟨o1, o2⟩ := or_bits ⟨p, hp⟩ ⟨x.1.toNat, by omega⟩
      dsimp only at o1 o2
      rw [show ((x.1.toNat : Nat) : Int) = x.1 by omega] at o1
      rw [o1]
      exact gr_fold who t ht _ o2
    · rw [if_neg hh, if_neg hh]
      exact gr_fold who t ht p hp

theorem grI_N {who : List IdT} {l : List EnT} (h : ∀ x ∈ l, enOk x = true) : grI who l = (grN who l : Int) ∧ grN who l < 32 := gr_fold who l h 0 (by omega)

theorem sb_or {a b c d : Nat} (h1 : sb a c) (h2 : sb b d) : sb (a ||| b) (c ||| d) := by
  intro s h
  rw [Nat.testBit_or, Bool.or_eq_true] at h ⊢
  exact h.imp (h1 s) (h2 s)

theorem sb_refl (a : Nat) : sb a a := fun _ h => h
theorem sb_left {a b : Nat} (c : Nat) (h : sb a b) : sb a (b ||| c) := fun s hs => by rw [Nat.testBit_or, h s hs]; rfl

theorem fold_sb {who who' : List IdT} (hh : ∀ x, hit who x = true → hit who' x = true) : ∀ (l : List EnT) (a b : Nat), sb a b → sb (l.foldl (fun p x => if hit who x then p ||| x.1.toNat else p) a) (l.foldl (fun p x => if hit who' x then p ||| x.1.toNat else p) b)
  | [], a, b, h => h
  | x :: t, a, b, h => by
    simp only [List.foldl_cons]
    refine fold_sb hh t _ _ ?_
    by_cases h1 : hit who x = true
    · rw [if_pos h1, if_pos (hh x h1)]
      exact sb_or h (sb_refl _)
    · rw [if_neg h1]
      split
      · exact sb_left _ h
      · exact h

theorem hit_more (who : List IdT) (o : IdT) (x : EnT) (h : hit who x = true) : hit (who ++ [o]) x = true := by
  unfold hit at h ⊢
  rw [List.any_append, ← Bool.or_assoc, h]
  rfl

theorem gr_ids (who : List IdT) (o : IdT) (l : List EnT) : sb (grN who l) (grN (who ++ [o]) l) := fold_sb (hit_more who o) l 0 0 (sb_refl _)

theorem gr_more (who : List IdT) (l : List EnT) (m : EnT) : sb (grN who l) (grN who (l ++ [m])) := by
  unfold grN
  rw [List.foldl_append, List.foldl_cons, List.foldl_nil]
  split
  · exact sb_left _ (sb_refl _)
  · exact sb_refl _

/-- What a fixed list allows, bit by bit. -/
theorem alB_sb {f : List EnT} {who : List IdT} {p : Nat} (hf : fxLs f = true) (hp : p < 32) : alB f (p : Int) who = true ↔ idLs who = true ∧ sb p (grN who f) := by
  obtain ⟨f1, _, _⟩ := (fxLs_iff f).1 hf
  obtain ⟨_, e2, _⟩ := (enLs_iff f).1 f1
  obtain ⟨g1, g2⟩ := grI_N (who := who) e2
  unfold alB
  have hb := andNot_bits ⟨p, hp⟩ ⟨grN who f, g2⟩
  dsimp only at hb
  rw [g1, hf, hb, decide_eq_true (show (0 : Int) ≤ p ∧ (p : Int) ≤ 31 by omega), Bool.and_self, Bool.true_and, Bool.and_eq_true, decide_eq_true_eq]
  rfl

/-- The bits below a place, each asked for alone. -/
def eachB (f : List EnT) (p : Nat) (who : List IdT) (k : Nat) : Bool := idLs who && (List.range k).all fun s => !p.testBit s || alB f ((2 ^ s : Nat) : Int) who

theorem eachB_step (f : List EnT) (p : Nat) (who : List IdT) (k : Nat) : eachB f p who (k + 1) = (eachB f p who k && (!p.testBit k || alB f ((2 ^ k : Nat) : Int) who)) := by
  unfold eachB
  rw [List.range_succ, List.all_append]
  simp [Bool.and_assoc]

theorem and_test : ∀ (p : Fin 32) (s : Fin 5), (bits .and .i8 (p.1 : Int) ((2 ^ s.1 : Nat) : Int) != 0) = p.1.testBit s.1 := by decide +kernel

theorem pow_bits : ∀ s t : Fin 5, (2 ^ s.1).testBit t.1 = decide (s = t) ∧ 2 ^ s.1 < 32 := by decide

theorem eachB_all {f : List EnT} {who : List IdT} {p : Nat} (hf : fxLs f = true) (hp : p < 32) : alB f (p : Int) who = eachB f p who 5 := by
  rw [Bool.eq_iff_iff, alB_sb hf hp]
  unfold eachB
  rw [Bool.and_eq_true, List.all_eq_true]
  constructor
  · rintro ⟨h1, h2⟩
    refine ⟨h1, fun s hs => ?_⟩
    have hs5 : s < 5 := List.mem_range.1 hs
    rw [Bool.or_eq_true, Bool.not_eq_true']
    by_cases hb : p.testBit s = true
    · right
      rw [alB_sb hf (pow_bits ⟨s, hs5⟩ ⟨s, hs5⟩).2]
      refine ⟨h1, fun t ht => ?_⟩
      rw [(pow_bits ⟨s, hs5⟩ t).1, decide_eq_true_eq] at ht
      rw [← ht]
      exact h2 ⟨s, hs5⟩ hb
    · left; simpa using hb
  · rintro ⟨h1, h2⟩
    refine ⟨h1, fun s hs => ?_⟩
    have := h2 s.1 (List.mem_range.2 s.2)
    rw [hs, Bool.not_true, Bool.false_or, alB_sb hf (pow_bits s s).2] at this
    exact this.2 s (by rw [(pow_bits s s).1]; simp)

/-- Never less with another id. -/
theorem al_ids {f : List EnT} {who : List IdT} {o : IdT} {p : Nat} (hf : fxLs f = true) (hp : p < 32) (h : alB f (p : Int) who = true) (hl : idLs (who ++ [o]) = true) : alB f (p : Int) (who ++ [o]) = true := by
  rw [alB_sb hf hp] at h ⊢
  exact ⟨hl, fun s hs => gr_ids who o f s (h.2 s hs)⟩

/-- Never less with another entry. -/
theorem al_more {f : List EnT} {who : List IdT} {m : EnT} {p : Nat} (hf : fxLs f = true) (hp : p < 32) (h : alB f (p : Int) who = true) (hm : isAu m = false) (hl : enLs (f ++ [m]) = true) : alB (f ++ [m]) (p : Int) who = true := by
  obtain ⟨f1, f2, f3⟩ := (fxLs_iff f).1 hf
  have hf2 : fxLs (f ++ [m]) = true := (fxLs_iff _).2 ⟨hl, by simp, fun x hx => by
    rcases List.mem_append.1 hx with hx | hx
    · exact f3 x hx
    · rw [List.mem_singleton.1 hx]; exact hm⟩
  rw [alB_sb hf hp] at h
  rw [alB_sb hf2 hp]
  exact ⟨h.1, fun s hs => gr_more who f m s (h.2 s hs)⟩

theorem al_out (f : List EnT) (who : List IdT) : alB f 32 who = false ∧ alB f (-1) who = false := by
  unfold alB
  simp

end Go.Proofs.YtgoiefhhbgollaaGreatDoor

/- What acl's Allows and Fix answer, for lists of whatever length. -/
namespace Go.Proofs.YtgoiefhhbgollaaGreatDoor
open Go.RowKit Go.Shelf
set_option maxRecDepth 8000

set_option maxHeartbeats 1000000 in
theorem allows_gen (v u : Value) (l : List EnT) (p : Int) (who : List IdT) (w : World) (h : SE w v l) (g : SI w u who) (hlen : l.length ≤ 1000) (hsz : ∀ x ∈ l, x.2.2.size ≤ 4294967296) (gsz : ∀ x ∈ who, x.2.size ≤ 4294967296) : Calls Tryz.prog 18 #[v, .int .i8 p, u] w fun e w' => e = .returned (.bool (alB l p who)) ∧ Below w.heap.size w w' := by
  by_cases hi : idLs who = true
  · exact allows_any v u l p who w h g hlen (by have := ((idLs_iff who).1 hi).1; omega) hsz gsz
  have hi2 : idLs who = false := by simpa using hi
  have HF : Hid (Calls Tryz.prog 50 #[v] w fun e w' => e = .returned (.bool (fxLs l)) ∧ Below w.heap.size w w') := isFixed_any v l w h hlen hsz
  have HP : Hid (∀ V : World, Calls Tryz.prog 51 #[.int .i8 p] V fun e w' => e = .returned (.bool (decide (0 ≤ p ∧ p ≤ 31))) ∧ w' = V) := isPerms_any p
  have HC : Hid (∀ V : World, Below w.heap.size w V → Calls Tryz.prog 24 #[u] V fun e w' => e = .returned (erV false) ∧ Below w.heap.size w w') := fun V hV => (aclCheckIds u who V (g.below hV) gsz).mono (fun e w' hh => ⟨by rw [hh.1, hi2], hV.trans (hh.2.mono hV.size)⟩)
  have ha : alB l p who = false := by unfold alB; rw [hi2]; simp
  rw [ha]
  generalize fxLs l = b1 at HF
  generalize decide (0 ≤ p ∧ p ≤ 31) = b2 at HP
  clear h g hlen hsz gsz hi hi2 ha
  cases b1
  · go_enter Tryz.func18, Tryz.ntmps18
    go_wp2_with (go_at_call 50; refine (HF.out).mono ?_; rintro e w1 ⟨rfl, hB⟩)
    all_goals (go_ret; exact ⟨rfl, hB⟩)
  cases b2
  · go_enter Tryz.func18, Tryz.ntmps18
    go_wp2_with fail
    go_at_call 50
    refine (HF.out).mono ?_
    rintro e w1 ⟨rfl, hB⟩
    go_wp2_with (go_at_call 51; refine (HP.out _).mono ?_; rintro e w2 ⟨rfl, rfl⟩)
    all_goals (go_ret; exact ⟨rfl, hB⟩)
  · go_enter Tryz.func18, Tryz.ntmps18
    go_wp2_with fail
    go_at_call 50
    refine (HF.out).mono ?_
    rintro e w1 ⟨rfl, hB⟩
    have HC1 : Hid (Calls Tryz.prog 24 #[u] w1 fun e w' => e = .returned (erV false) ∧ Below w.heap.size w w') := HC.out w1 hB
    clear hB
    go_wp2_with fail
    go_at_call 51
    refine (HP.out _).mono ?_
    rintro e w2 ⟨rfl, rfl⟩
    go_wp2_with (go_at_call 24; refine (HC1.out).mono ?_; rintro e w3 ⟨rfl, hB⟩)
    all_goals (go_ret; exact ⟨rfl, hB⟩)

set_option maxHeartbeats 2000000 in
theorem fix_gen (v u : Value) (l : List EnT) (who : List IdT) (w : World) (h : SE w v l) (g : SI w u who) (hsz : ∀ x ∈ l, x.2.2.size ≤ 4294967296) (gsz : ∀ x ∈ who, x.2.size ≤ 4294967296) : Calls Tryz.prog 9 #[v, u] w fun e w' => (∃ fv, e = .returned (.tuple #[fv, erV (fixA l who).isSome]) ∧ w'.ownsRow w.heap.size 39 3 fv ((fixA l who).getD []).length (enFlat ((fixA l who).getD [])) ∧ (fixA l who = none → fv = .slice none 0 0)) ∧ Below w.heap.size w w' := by
  have HC : Hid (Calls Tryz.prog 23 #[v] w fun e w' => e = .returned (erV (enLs l)) ∧ Below w.heap.size w w') := aclCheck v l w h hsz
  have HI : Hid (∀ V : World, Below w.heap.size w V → Calls Tryz.prog 24 #[u] V fun e w' => e = .returned (erV (idLs who)) ∧ Below w.heap.size w w') := fun V hV => (aclCheckIds u who V (g.below hV) gsz).mono (fun e w' hh => ⟨hh.1, hV.trans (hh.2.mono hV.size)⟩)
  cases hb1 : enLs l
  · have hr : fixA l who = none := by
      unfold fixA
      rw [if_neg (fun e => by
        rw [List.length_eq_zero_iff.1 e] at hb1
        exact absurd hb1 (by decide))]
      unfold fixL
      rw [hb1]
      rfl
    rw [hr]
    rw [hb1] at HC
    clear hb1 hr h g hsz gsz
    go_enter Tryz.func9, Tryz.ntmps9
    go_wp2_with fail
    go_at_call 23
    refine (HC.out).mono ?_
    rintro e w1 ⟨rfl, hB⟩
    go_wp2
    all_goals (refine bodyPost_ret (results_tmp2 rfl _ _ _) rfl ?_; exact ⟨⟨_, rfl, World.ownsRow_nil _ _ _ _, fun _ => rfl⟩, hB⟩)
  cases hb2 : idLs who
  · have hr : fixA l who = none := by
      unfold fixA fixL
      rw [hb2]
      split
      · rfl
      · rw [Bool.and_false]; rfl
    rw [hr]
    rw [hb1] at HC
    rw [hb2] at HI
    clear hb1 hb2 hr h g hsz gsz
    go_enter Tryz.func9, Tryz.ntmps9
    go_wp2_with fail
    go_at_call 23
    refine (HC.out).mono ?_
    rintro e w1 ⟨rfl, hB⟩
    have HI1 := HI.out w1 hB
    clear hB
    go_wp2_with fail
    go_at_call 24
    refine HI1.mono ?_
    rintro e w2 ⟨rfl, hB⟩
    go_wp2
    all_goals (refine bodyPost_ret (results_tmp2 rfl _ _ _) rfl ?_; exact ⟨⟨_, rfl, World.ownsRow_nil _ _ _ _, fun _ => rfl⟩, hB⟩)
  by_cases hl0 : l.length = 0
  · have hr : fixA l who = some [evE] := by unfold fixA; rw [if_pos hl0, hb2]; rfl
    rw [hr]
    rw [hb1] at HC
    rw [hb2] at HI
    obtain ⟨ao, cap, rfl, _, _⟩ := id h
    rw [hl0] at HC ⊢
    clear hb1 hb2 hr h g hsz gsz hl0
    go_enter Tryz.func9, Tryz.ntmps9
    go_wp2_with fail
    go_at_call 23
    refine (HC.out).mono ?_
    rintro e w1 ⟨rfl, hB⟩
    have HI1 := HI.out w1 hB
    clear hB
    go_wp2_with fail
    go_at_call 24
    refine HI1.mono ?_
    rintro e w2 ⟨rfl, hB⟩
    have H2 : Hid (Below w.heap.size w w2) := hB
    clear hB
    go_wp2_with fail
    go_at_call 25
    refine (everybody_any _).mono ?_
    rintro e w3 ⟨rfl, hB⟩
    have H3 : Hid (Below w.heap.size w w3) := H2.out.trans (hB.mono H2.out.size)
    clear hB H2
    go_wp2
    refine bodyPost_ret (results_tmp2 rfl _ _ _) rfl ?_
    exact ⟨⟨_, rfl, ⟨rfl, .inr ⟨w3.heap.size, 1, _, rfl, H3.out.size, heap_alloc_new _ _, Nat.le_refl _, by decide, rfl, rfl⟩⟩, fun e => by cases e⟩, H3.out.alloc H3.out.size _⟩
  · have hA : fixA l who = fixL l who := by unfold fixA; rw [if_neg hl0]
    rw [hA]
    exact fix_any v u l who w h g (by omega) (by have := ((enLs_iff l).1 hb1).1; omega) (by have := ((idLs_iff who).1 hb2).1; omega) hsz gsz

end Go.Proofs.YtgoiefhhbgollaaGreatDoor
