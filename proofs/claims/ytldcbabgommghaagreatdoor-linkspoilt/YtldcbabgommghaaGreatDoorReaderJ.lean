/- What the Reader's calls of package pack do: what is answered, what is left, and the fault. -/
import Derived.Test.YtldcbabgommghaaGreatDoorWriterJ
namespace Go.Proofs.YtldcbabgommghaaGreatDoor
open Go.RowKit
set_option maxRecDepth 8000

section
variable {w : World} {g : Nat} {v : Value} {xs : List Int} {f : Int}
theorem IsR.kept {w' : World} {S : Nat → Prop} (h : IsR w g v xs f) (hk : Kept w w' S) (hg : ¬ S g) (hn : ∀ k, v.ownBlock = some k → ¬ S k) : IsR w' g v xs f :=
  ⟨hk.heap h.1 hg, h.2.kept hk hn⟩
theorem IsR.c0 (h : IsR w g v xs f) : w.cell? ⟨g, 0, none⟩ = some (.bool true) := by rw [cell_of_row w g 0 _ _ _ h.1]; rfl
theorem IsR.c1 (h : IsR w g v xs f) : w.cell? ⟨g, 1, none⟩ = some v := by rw [cell_of_row w g 1 _ _ _ h.1]; rfl
theorem IsR.c2 (h : IsR w g v xs f) : w.cell? ⟨g, 2, none⟩ = some (.int .i64 f) := by rw [cell_of_row w g 2 _ _ _ h.1]; rfl
theorem IsR.fr (h : IsR w g v xs f) (j : Nat) : w.frozen? ⟨g, j, none⟩ = false := frozen_of_row w g j _ _ h.1

theorem sees_shape (h : Sees w v xs) : ∃ ao n c, v = .slice ao n c := by
  obtain ⟨ao, cap, rfl, _⟩ := h
  exact ⟨_, _, _, rfl⟩

theorem IsR.apart (h : IsR w g v xs f) (hx : xs ≠ []) : v.ownBlock ≠ some g := by
  obtain ⟨h1, h2⟩ := h
  obtain ⟨ao, cap, rfl, g1, g2, g0, g3⟩ := h2
  rcases g3 with g3 | ⟨b, off, rfl, g3⟩
  · exact absurd g3 hx
  · intro e
    simp [Value.ownBlock] at e
    subst e
    have hl : 0 < xs.length := List.length_pos_iff.2 hx
    have := g3 0 hl
    rw [cell_of_row w b _ _ _ _ h1] at this
    match off, this with
    | 0, t => simp at t
    | 1, t => simp at t
    | 2, t => simp at t
    | n + 3, t => simp at t

/-- A slice that is seen stays so while a block changes in which it has no byte. -/
theorem Sees.set (h : Sees w v xs) (a : Addr) (u : Value) (hn : xs ≠ [] → v.ownBlock ≠ some a.block) : Sees (w.setCell a u) v xs := by
  obtain ⟨ao, cap, rfl, g1, g2, g0, g3⟩ := h
  refine ⟨ao, cap, rfl, g1, g2, g0, ?_⟩
  by_cases hx : xs = []
  · exact .inl hx
  · rcases g3 with g3 | ⟨b, off, rfl, g3⟩
    · exact .inl g3
    · refine .inr ⟨b, off, rfl, fun i hi => ?_⟩
      have hb : b ≠ a.block := fun e => hn hx (by simp [Value.ownBlock, e])
      rw [World.cell?_of_block (w := w) (w' := w.setCell a u) (Below.heap_setCell w a u b hb)]
      exact g3 i hi

theorem IsR.fail (h : IsR w g v xs f) (e : Int) : IsR (w.setCell ⟨g, 2, none⟩ (.int .i64 e)) g v xs e := by
  refine ⟨?_, h.2.set _ _ (fun hx => h.apart hx)⟩
  rw [heap_setCell_same w g 2 _ _ _ h.1]; rfl

theorem IsR.turn (h : IsR w g v xs f) {v' : Value} {ys : List Int} (hv : Sees w v' ys) (hap : ys ≠ [] → v'.ownBlock ≠ some g) : IsR (w.setCell ⟨g, 1, none⟩ v') g v' ys f := by
  refine ⟨?_, hv.set _ _ (fun hx => hap hx)⟩
  rw [heap_setCell_same w g 1 _ _ _ h.1]; rfl
end

theorem rErr_any (g : Nat) (v : Value) (xs : List Int) (f : Int) (w : World) (h : IsR w g v xs f) :
    Calls Tryz.prog 58 #[.pointer (some ⟨g, 0, none⟩)] w fun e w' => e = .returned (.int .i64 f) ∧ w' = w := by
  have h0 := h.c0
  have h2 := h.c2
  clear h
  go_enter Tryz.func58, Tryz.ntmps58
  go_wp2
  go_ret
  exact ⟨rfl, rfl⟩

theorem rReads_any (g : Nat) (v : Value) (xs : List Int) (f : Int) (w : World) (h : IsR w g v xs f) :
    Calls Tryz.prog 134 #[.pointer (some ⟨g, 0, none⟩)] w fun e w' => e = .returned (.bool (f == 0)) ∧ w' = w := by
  have H : Hid (IsR w g v xs f) := h
  clear h
  go_enter Tryz.func134, Tryz.ntmps134
  go_wp2_with fail
  refine (rErr_any g v xs f _ H.out).mono ?_
  rintro e w1 ⟨rfl, rfl⟩
  go_wp2
  go_ret
  exact ⟨rfl, rfl⟩

theorem sees_take {w : World} {ao : Option Addr} {xs : List Int} {cap n : Nat} (h : Sees w (.slice ao xs.length cap) xs) (hn : n ≤ xs.length) : Sees w (.slice ao n n) (xs.take n) := by
  obtain ⟨ao', cap', e, g1, g2, g0, g3⟩ := h
  simp at e
  obtain ⟨rfl, rfl⟩ := e
  have hl : (xs.take n).length = n := by simp; omega
  refine ⟨ao, n, by rw [hl], by omega, by omega, fun e => by have := g0 e; omega, ?_⟩
  by_cases hx : n = 0
  · subst hx; exact .inl (by simp)
  · rcases g3 with g3 | ⟨b, off, rfl, g3⟩
    · subst g3; exact .inl (by simp)
    · refine .inr ⟨b, off, rfl, fun i hi => ?_⟩
      rw [g3 i (by omega)]
      have : i < n := by omega
      simp [List.getD_eq_getElem?_getD, this]

set_option maxHeartbeats 400000 in
theorem rPeek_ok (g : Nat) (v : Value) (xs : List Int) (n : Nat) (w : World) (h : IsR w g v xs 0) (hn : n ≤ xs.length) :
    Calls Tryz.prog 126 #[.pointer (some ⟨g, 0, none⟩), .int .i64 n] w fun e w' => ∃ ao, e = .returned (.tuple #[.slice ao n n, .bool true]) ∧ Sees w (.slice ao n n) (xs.take n) ∧ (∃ l c, v = .slice ao l c) ∧ w' = w := by
  have H : Hid (IsR w g v xs 0) := h
  have h1 := h.c1
  obtain ⟨ao, cap, rfl, g1, g2, g0, g3⟩ := h.2
  clear h g3
  unfold maxLen at g2
  go_enter Tryz.func126, Tryz.ntmps126
  go_wp2_with fail
  refine (rReads_any g _ xs 0 _ H.out).mono ?_
  rintro e w1 ⟨rfl, rfl⟩
  go_wp2
  go_ret2
  exact ⟨_, rfl, sees_take H.out.2 hn, ⟨_, _, rfl⟩, rfl⟩

set_option maxHeartbeats 400000 in
theorem rPeek_short (g : Nat) (v : Value) (xs : List Int) (n : Nat) (w : World) (h : IsR w g v xs 0) (hn : xs.length < n) :
    Calls Tryz.prog 126 #[.pointer (some ⟨g, 0, none⟩), .int .i64 n] w fun e w' => e = .returned (.tuple #[.slice none 0 0, .bool false]) ∧ w' = w.setCell ⟨g, 2, none⟩ (.int .i64 10) := by
  have H : Hid (IsR w g v xs 0) := h
  have h1 := h.c1
  have h2 := h.c2
  have h3 := h.fr 2
  obtain ⟨ao, cap, rfl, g1, g2, g0, g3⟩ := h.2
  clear h g3
  unfold maxLen at g2
  go_enter Tryz.func126, Tryz.ntmps126
  go_wp2_with fail
  refine (rReads_any g _ xs 0 _ H.out).mono ?_
  rintro e w1 ⟨rfl, rfl⟩
  go_wp2
  go_ret2
  exact ⟨rfl, rfl⟩

set_option maxHeartbeats 400000 in
theorem rPeek_neg (g : Nat) (v : Value) (xs : List Int) (n : Int) (w : World) (h : IsR w g v xs 0) (hn : n < 0) :
    Calls Tryz.prog 126 #[.pointer (some ⟨g, 0, none⟩), .int .i64 n] w fun e w' => e = .returned (.tuple #[.slice none 0 0, .bool false]) ∧ w' = w.setCell ⟨g, 2, none⟩ (.int .i64 11) := by
  have H : Hid (IsR w g v xs 0) := h
  have h2 := h.c2
  have h3 := h.fr 2
  clear h
  go_enter Tryz.func126, Tryz.ntmps126
  go_wp2_with fail
  refine (rReads_any g _ xs 0 _ H.out).mono ?_
  rintro e w1 ⟨rfl, rfl⟩
  go_wp2
  go_ret2
  exact ⟨rfl, rfl⟩

set_option maxHeartbeats 400000 in
theorem rPeek_fault (g : Nat) (v : Value) (xs : List Int) (n : Int) (f : Int) (w : World) (h : IsR w g v xs f) (hf : f ≠ 0) :
    Calls Tryz.prog 126 #[.pointer (some ⟨g, 0, none⟩), .int .i64 n] w fun e w' => e = .returned (.tuple #[.slice none 0 0, .bool false]) ∧ w' = w := by
  have H : Hid (IsR w g v xs f) := h
  clear h
  have hf' : (f == 0) = false := by simp [hf]
  clear hf
  go_enter Tryz.func126, Tryz.ntmps126
  go_wp2_with fail
  refine (rReads_any g _ xs f _ H.out).mono ?_
  rintro e w1 ⟨rfl, rfl⟩
  go_wp2
  go_ret2
  exact ⟨rfl, rfl⟩

set_option maxHeartbeats 400000 in
theorem join_any (v : Value) (xs : List Int) (w : World) (h : Sees w v xs) (hb : Byts xs) (h8 : xs.length ≤ 8) :
    Calls Tryz.prog 119 #[v] w fun e w' => e = .returned (.int .u64 (num xs)) ∧ w' = w := by
  obtain ⟨ao, cap, rfl, hlc, hcm, _, h3⟩ := h
  unfold maxLen at hcm
  go_enter Tryz.func119, Tryz.ntmps119
  go_wp2
  go_loop [3, 8] (fun a i => ∃ k : Nat, k ≤ xs.length ∧ i = .int .i64 k ∧ a = .int .u64 (num (xs.take k))) (fun _ i => xs.length - (intOf i).toNat)
  case atStart => exact ⟨0, Nat.zero_le _, rfl, rfl⟩
  case round =>
    obtain ⟨k, hk, rfl, rfl⟩ := hrel
    by_cases hlt : k < xs.length
    · rcases h3 with h3 | ⟨b, off, rfl, h3⟩
      · subst h3; simp at hlt
      · have hd := num_bd8 xs hb k hlt h8
        have hc := h3 k hlt
        have hx := hb.nth k
        have HS : Hid _ := num_next xs k hlt
        generalize xs.getD k 0 = x at *
        generalize hA : num (xs.take k) = A at *
        clear hA h3 hb
        go_wp2
        go_round
        case rel => exact ⟨k + 1, by omega, by go_num, by rw [HS.out, num_or A x hd.1 hd.2 hx.1 hx.2]⟩
        case measure => simp [intOf]; omega
    · obtain rfl : k = xs.length := by omega
      rw [List.take_length] at *
      go_wp2
      go_ret
      exact ⟨rfl, rfl⟩

/-- What is left of a slice behind its first n bytes, as Go cuts it. -/
def cutFrom (v : Value) (n : Nat) : Value := match v with
  | .slice ao l c => if c = n then .slice ao (l - n) 0 else .slice (ao.map (·.add n)) (l - n) (c - n)
  | u => u

theorem addr_add (b off n : Nat) : (⟨b, off, none⟩ : Addr).add n = ⟨b, off + n, none⟩ := by
  by_cases h : n = 0
  · subst h; simp [Addr.add]
  · simp [Addr.add, h]

theorem sees_drop {w : World} {ao : Option Addr} {xs : List Int} {cap n : Nat} (h : Sees w (.slice ao xs.length cap) xs) (hn : n ≤ xs.length) : Sees w (cutFrom (.slice ao xs.length cap) n) (xs.drop n) := by
  obtain ⟨ao', cap', e, g1, g2, g0, g3⟩ := h
  simp at e
  obtain ⟨rfl, rfl⟩ := e
  have hl : (xs.drop n).length = xs.length - n := by simp
  unfold cutFrom
  simp only
  by_cases hc : cap = n
  · rw [if_pos hc]
    have : xs.drop n = [] := List.eq_nil_of_length_eq_zero (by omega)
    exact ⟨ao, 0, by rw [hl], by omega, by unfold maxLen; omega, fun _ => rfl, .inl this⟩
  · rw [if_neg hc]
    refine ⟨_, cap - n, by rw [hl], by omega, by omega, fun e => ?_, ?_⟩
    · cases ao with
      | none => have := g0 rfl; omega
      | some a => simp at e
    · rcases g3 with g3 | ⟨b, off, rfl, g3⟩
      · subst g3; exact .inl (by simp)
      · refine .inr ⟨b, off + n, by simp [addr_add], fun i hi => ?_⟩
        have := g3 (n + i) (by omega)
        rw [Nat.add_assoc, this]
        simp [List.getD_eq_getElem?_getD]

theorem cutFrom_block {ao : Option Addr} {l c n k : Nat} (h : (cutFrom (.slice ao l c) n).ownBlock = some k) : (Value.slice ao l c).ownBlock = some k := by
  unfold cutFrom at h
  simp only at h
  by_cases hc : c = n
  · rw [if_pos hc] at h
    cases ao with
    | none => simp [Value.ownBlock] at h
    | some a => simpa [Value.ownBlock] using h
  · rw [if_neg hc] at h
    cases ao with
    | none => simp [Value.ownBlock] at h
    | some a =>
      obtain ⟨b, off, sp⟩ := a
      simp [Value.ownBlock, Addr.add] at h ⊢
      by_cases hn : n = 0
      · simpa [hn] using h
      · simpa [hn] using h

theorem IsR.skip {w : World} {g : Nat} {v : Value} {xs : List Int} {f : Int} {n : Nat} (h : IsR w g v xs f) (hn : n ≤ xs.length) : IsR (w.setCell ⟨g, 1, none⟩ (cutFrom v n)) g (cutFrom v n) (xs.drop n) f := by
  have h2 := h.2
  obtain ⟨ao, cap, rfl, g1, g2, g0, g3⟩ := h2
  refine h.turn (sees_drop h.2 hn) (fun hx e => ?_)
  exact h.apart (fun e2 => hx (by rw [e2]; simp)) (cutFrom_block e)

set_option maxHeartbeats 400000 in
theorem rSkip_ok (g : Nat) (v : Value) (xs : List Int) (n : Nat) (f : Int) (w : World) (h : IsR w g v xs f) (hn : n ≤ xs.length) :
    Calls Tryz.prog 127 #[.pointer (some ⟨g, 0, none⟩), .int .i64 n] w fun e w' => e = .returned (.tuple #[]) ∧ w' = w.setCell ⟨g, 1, none⟩ (cutFrom v n) := by
  have h1 := h.c1
  have hf := h.fr 1
  obtain ⟨ao, cap, rfl, g1, g2, g0, g3⟩ := h.2
  clear h g3
  unfold maxLen at g2
  by_cases hc : cap = n
  · have e : cutFrom (.slice ao xs.length cap) n = .slice ao (xs.length - n) 0 := by unfold cutFrom; simp [hc]
    rw [e]
    clear e
    subst hc
    go_enter Tryz.func127, Tryz.ntmps127
    go_wp2
    go_end0
    exact ⟨rfl, by rw [show xs.length - cap = 0 by omega]⟩
  · have e : cutFrom (.slice ao xs.length cap) n = .slice (ao.map (·.add n)) (xs.length - n) (cap - n) := by unfold cutFrom; simp [hc]
    rw [e]
    clear e
    go_enter Tryz.func127, Tryz.ntmps127
    go_wp2
    go_end0
    exact ⟨rfl, rfl⟩

/-- A Reader's state behind a call. -/
structure Rd where
  out : Int
  rest : List Int
  fault : Int

/-- n bytes as a number: by the document. -/
def rdNum (n : Nat) (xs : List Int) (f : Int) : Rd :=
  if f ≠ 0 then ⟨0, xs, f⟩ else if xs.length < n then ⟨0, xs, 10⟩ else ⟨num (xs.take n), xs.drop n, 0⟩

set_option maxHeartbeats 400000 in
theorem rTake_ok (g : Nat) (v : Value) (xs : List Int) (n : Nat) (w : World) (h : IsR w g v xs 0) (hn : n ≤ xs.length) :
    Calls Tryz.prog 120 #[.pointer (some ⟨g, 0, none⟩), .int .i64 n] w fun e w' => ∃ ao, e = .returned (.slice ao n n) ∧ Sees w (.slice ao n n) (xs.take n) ∧ (∃ l c, v = .slice ao l c) ∧ w' = w.setCell ⟨g, 1, none⟩ (cutFrom v n) := by
  have H : Hid (IsR w g v xs 0) := h
  clear h
  go_enter Tryz.func120, Tryz.ntmps120
  go_wp2_with fail
  refine (rPeek_ok g v xs n _ H.out hn).mono ?_
  rintro e w1 ⟨ao, rfl, hs, hv, rfl⟩
  have HS : Hid (Sees w1 (.slice ao n n) (xs.take n) ∧ ∃ l c, v = .slice ao l c) := ⟨hs, hv⟩
  clear hs hv
  go_wp2_with fail
  refine (rSkip_ok g v xs n 0 _ H.out hn).mono ?_
  rintro e w2 ⟨rfl, rfl⟩
  go_wp2
  go_ret
  exact ⟨_, rfl, HS.out.1, HS.out.2, rfl⟩

set_option maxHeartbeats 400000 in
theorem rTake_short (g : Nat) (v : Value) (xs : List Int) (n : Nat) (w : World) (h : IsR w g v xs 0) (hn : xs.length < n) :
    Calls Tryz.prog 120 #[.pointer (some ⟨g, 0, none⟩), .int .i64 n] w fun e w' => e = .returned (.slice none 0 0) ∧ w' = w.setCell ⟨g, 2, none⟩ (.int .i64 10) := by
  have H : Hid (IsR w g v xs 0) := h
  clear h
  go_enter Tryz.func120, Tryz.ntmps120
  go_wp2_with fail
  refine (rPeek_short g v xs n _ H.out hn).mono ?_
  rintro e w1 ⟨rfl, rfl⟩
  go_wp2
  go_ret
  exact ⟨rfl, rfl⟩

set_option maxHeartbeats 400000 in
theorem rTake_neg (g : Nat) (v : Value) (xs : List Int) (n : Int) (w : World) (h : IsR w g v xs 0) (hn : n < 0) :
    Calls Tryz.prog 120 #[.pointer (some ⟨g, 0, none⟩), .int .i64 n] w fun e w' => e = .returned (.slice none 0 0) ∧ w' = w.setCell ⟨g, 2, none⟩ (.int .i64 11) := by
  have H : Hid (IsR w g v xs 0) := h
  clear h
  go_enter Tryz.func120, Tryz.ntmps120
  go_wp2_with fail
  refine (rPeek_neg g v xs n _ H.out hn).mono ?_
  rintro e w1 ⟨rfl, rfl⟩
  go_wp2
  go_ret
  exact ⟨rfl, rfl⟩

set_option maxHeartbeats 400000 in
theorem rTake_fault (g : Nat) (v : Value) (xs : List Int) (n : Int) (f : Int) (w : World) (h : IsR w g v xs f) (hf : f ≠ 0) :
    Calls Tryz.prog 120 #[.pointer (some ⟨g, 0, none⟩), .int .i64 n] w fun e w' => e = .returned (.slice none 0 0) ∧ w' = w := by
  have H : Hid (IsR w g v xs f ∧ f ≠ 0) := ⟨h, hf⟩
  clear h hf
  go_enter Tryz.func120, Tryz.ntmps120
  go_wp2_with fail
  refine (rPeek_fault g v xs n f _ H.out.1 H.out.2).mono ?_
  rintro e w1 ⟨rfl, rfl⟩
  go_wp2
  go_ret
  exact ⟨rfl, rfl⟩

theorem sees_nil (w : World) : Sees w (.slice none 0 0) [] := ⟨none, 0, rfl, Nat.le_refl _, by unfold maxLen; omega, fun _ => rfl, .inl rfl⟩

/-- The Reader at g behind a call: its state is s. -/
def ReadsTo (w : World) (g : Nat) (v : Value) (s : Rd) (w' : World) : Prop :=
  ∃ v', IsR w' g v' s.rest s.fault ∧ (∀ k, v'.ownBlock = some k → v.ownBlock = some k) ∧ Kept w w' (· = g)

theorem ReadsTo.stay {w : World} {g : Nat} {v : Value} {xs : List Int} {f n : Int} (h : IsR w g v xs f) : ReadsTo w g v ⟨n, xs, f⟩ w := ⟨v, h, fun _ h => h, Kept.refl _ _⟩
theorem ReadsTo.fail {w : World} {g : Nat} {v : Value} {xs : List Int} {f n : Int} (h : IsR w g v xs f) (e : Int) : ReadsTo w g v ⟨n, xs, e⟩ (w.setCell ⟨g, 2, none⟩ (.int .i64 e)) :=
  ⟨v, h.fail e, fun _ h => h, (Kept.refl w _).setCell _ _ (fun _ => rfl)⟩
theorem ReadsTo.skip {w : World} {g : Nat} {v : Value} {xs : List Int} {f x : Int} {n : Nat} (h : IsR w g v xs f) (hn : n ≤ xs.length) : ReadsTo w g v ⟨x, xs.drop n, f⟩ (w.setCell ⟨g, 1, none⟩ (cutFrom v n)) := by
  refine ⟨_, h.skip hn, fun k hk => ?_, (Kept.refl w _).setCell _ _ (fun _ => rfl)⟩
  obtain ⟨ao, cap, rfl, _⟩ := h.2
  exact cutFrom_block hk

set_option maxHeartbeats 400000 in
theorem rNumber_any (g : Nat) (v : Value) (xs : List Int) (f : Int) (n : Nat) (w : World) (h : IsR w g v xs f) (hb : Byts xs) (h8 : n ≤ 8) :
    Calls Tryz.prog 68 #[.pointer (some ⟨g, 0, none⟩), .int .i64 n] w fun e w' => e = .returned (.int .u64 (rdNum n xs f).out) ∧ ReadsTo w g v (rdNum n xs f) w' := by
  have H : Hid (IsR w g v xs f ∧ Byts xs) := ⟨h, hb⟩
  clear h hb
  by_cases hf : f = 0
  · by_cases hl : xs.length < n
    · have e1 : rdNum n xs f = ⟨0, xs, 10⟩ := by simp [rdNum, hf, hl]
      rw [e1]
      clear e1
      subst hf
      go_enter Tryz.func68, Tryz.ntmps68
      go_wp2_with fail
      refine (rTake_short g v xs n _ H.out.1 hl).mono ?_
      rintro e w1 ⟨rfl, rfl⟩
      go_wp2_with fail
      refine (join_any _ [] _ (sees_nil _) (by intro x hx; simp at hx) (by simp)).mono ?_
      rintro e w2 ⟨rfl, rfl⟩
      go_wp2
      go_ret
      exact ⟨rfl, ReadsTo.fail H.out.1 10⟩
    · have e1 : rdNum n xs f = ⟨num (xs.take n), xs.drop n, 0⟩ := by simp [rdNum, hf, hl]
      rw [e1]
      clear e1
      subst hf
      go_enter Tryz.func68, Tryz.ntmps68
      go_wp2_with fail
      refine (rTake_ok g v xs n _ H.out.1 (by omega)).mono ?_
      rintro e w1 ⟨ao, rfl, hs, hv, rfl⟩
      have HS : Hid (Sees w (.slice ao n n) (xs.take n) ∧ ∃ l c, v = .slice ao l c) := ⟨hs, hv⟩
      clear hs hv
      go_wp2_with fail
      refine (join_any _ (xs.take n) _ (HS.out.1.set _ _ (fun hx => ?_)) (H.out.2.take n) (by simp; omega)).mono ?_
      · obtain ⟨l, c, e⟩ := HS.out.2
        have := H.out.1.apart (fun e2 => hx (by rw [e2]; simp))
        rw [e] at this
        cases ao with
        | none => simp [Value.ownBlock]
        | some a => simpa [Value.ownBlock] using this
      rintro e w2 ⟨rfl, rfl⟩
      go_wp2
      go_ret
      exact ⟨rfl, ReadsTo.skip H.out.1 (by omega)⟩
  · have e1 : rdNum n xs f = ⟨0, xs, f⟩ := by simp [rdNum, hf]
    rw [e1]
    clear e1
    have HF : Hid (f ≠ 0) := hf
    clear hf
    go_enter Tryz.func68, Tryz.ntmps68
    go_wp2_with fail
    refine (rTake_fault g v xs n f _ H.out.1 HF.out).mono ?_
    rintro e w1 ⟨rfl, rfl⟩
    go_wp2_with fail
    refine (join_any _ [] _ (sees_nil _) (by intro x hx; simp at hx) (by simp)).mono ?_
    rintro e w2 ⟨rfl, rfl⟩
    go_wp2
    go_ret
    exact ⟨rfl, ReadsTo.stay H.out.1⟩

/-- A number of 32 bits as an int32. -/
def down32 (n : Int) : Int := wrap32 n
theorem down32_is (n : Int) (h0 : 0 ≤ n) (h1 : n < 4294967296) : down32 n = if n ≤ 2147483647 then n else n - 4294967296 := by
  unfold down32 wrap32; split <;> omega

theorem rdNum_bd (n : Nat) (xs : List Int) (f : Int) (hb : Byts xs) : 0 ≤ (rdNum n xs f).out ∧ (rdNum n xs f).out < 256 ^ n := by
  have h0 : (0 : Int) < 256 ^ n := Int.pow_pos (by decide)
  unfold rdNum
  by_cases hf : f ≠ 0
  · rw [if_pos hf]; exact ⟨Int.le_refl _, h0⟩
  · rw [if_neg hf]
    by_cases hl : xs.length < n
    · rw [if_pos hl]; exact ⟨Int.le_refl _, h0⟩
    · rw [if_neg hl]; exact num_bd xs hb n (by omega)

set_option maxHeartbeats 400000 in
theorem rInt32_any (g : Nat) (v : Value) (xs : List Int) (f : Int) (w : World) (h : IsR w g v xs f) (hb : Byts xs) :
    Calls Tryz.prog 159 #[.pointer (some ⟨g, 0, none⟩)] w fun e w' => e = .returned (.int .i32 (down32 (rdNum 4 xs f).out)) ∧ ReadsTo w g v (rdNum 4 xs f) w' := by
  have H : Hid (IsR w g v xs f ∧ Byts xs) := ⟨h, hb⟩
  clear h hb
  go_enter Tryz.func159, Tryz.ntmps159
  go_wp2_with fail
  refine (rNumber_any g v xs f 4 _ H.out.1 H.out.2 (by omega)).mono ?_
  rintro e w1 ⟨rfl, hr⟩
  have HR : Hid (ReadsTo w g v (rdNum 4 xs f) w1) := hr
  clear hr
  go_wp2
  go_ret
  exact ⟨rfl, HR.out⟩

theorem sees_first {w : World} {ao : Option Addr} {n c : Nat} {xs : List Int} (h : Sees w (.slice ao n c) (xs.take n)) (hn : 0 < n ∧ 0 < xs.length) : ∃ b off, ao = some ⟨b, off, none⟩ ∧ w.cell? ⟨b, off, none⟩ = some (.int .u8 (xs.getD 0 0)) := by
  obtain ⟨ao', cap, e, _, _, _, h3⟩ := h
  simp at e
  obtain ⟨rfl, _, _⟩ := e
  rcases h3 with h3 | ⟨b, off, rfl, h3⟩
  · have : (xs.take n).length = 0 := by rw [h3]; rfl
    rw [List.length_take] at this
    omega
  · refine ⟨b, off, rfl, ?_⟩
    have := h3 0 (by simp; omega)
    rw [Nat.add_zero] at this
    rw [this]
    have hn' : 0 < n := hn.1
    simp [List.getD_eq_getElem?_getD, hn']

/-- New: a Reader over a copy of the bytes. -/
theorem new_any (u : Value) (ys : List Int) (w : World) (hu : Sees w u ys) (hl : ys.length ≤ 140737488355328) :
    Calls Tryz.prog 55 #[u] w fun e w' => ∃ g v, e = .returned (.pointer (some ⟨g, 0, none⟩)) ∧ IsR w' g v ys 0 ∧ w.heap.size ≤ g ∧ Owns w' w.heap.size v ys ∧ Below w.heap.size w w' := by
  have H : Hid (Sees w u ys) := hu
  clear hu
  go_enter Tryz.func55, Tryz.ntmps55
  go_wp2_with fail
  refine (clone_any u ys _ H.out hl).mono ?_
  rintro e w1 ⟨v, rfl, hp⟩
  have HP : Hid (Owns w1 w.heap.size v ys ∧ Below w.heap.size w w1) := hp
  obtain ⟨ao', n', c', hv'⟩ := owns_shape hp.1
  clear hp
  subst hv'
  go_wp2
  go_ret
  exact ⟨w1.heap.size, _, rfl, ⟨heap_alloc_new _ _, Sees.own (HP.out.1.alloc _)⟩, HP.out.2.size, HP.out.1.alloc _, HP.out.2.alloc HP.out.2.size _⟩

end Go.Proofs.YtldcbabgommghaaGreatDoor
