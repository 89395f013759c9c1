/- The document's list of numbers, and a ring's answers held against it. -/
import Derived.Test.YtcbbclniginciaaCaO
namespace Go.Proofs.Ytcbbclniginciaa
open Go.RowKit
set_option maxRecDepth 8000

abbrev OwnI (w : World) (base : Nat) (v : Value) (xs : List Int) : Prop := w.ownsRow base 2 1 v xs.length (xs.map (Value.int .i64))

theorem ownI_shape {w : World} {base : Nat} {v : Value} {xs : List Int} (h : OwnI w base v xs) : ∃ a c, v = .slice a xs.length c ∧ xs.length ≤ c ∧ c ≤ maxLen ∧ (xs = [] ∨ ∃ b, a = some ⟨b, 0, none⟩ ∧ ∀ (i : Nat) (h : i < xs.length), w.cell? ⟨b, i, none⟩ = some (.int .i64 xs[i])) := by
  have hh := h
  obtain ⟨h0, ⟨rfl, e⟩ | ⟨g, cap, cur, rfl, h1, h3, h4, h5, h6, h7⟩⟩ := h
  · exact ⟨none, 0, by rw [e], by omega, by unfold maxLen; omega, .inl (List.eq_nil_of_length_eq_zero e)⟩
  · refine ⟨_, _, rfl, h4, h5, .inr ⟨g, rfl, fun i hi => ?_⟩⟩
    rw [hh.cellAt i (by omega)]
    simp [hi]

/-- Numbers' block. -/
abbrev nuC (m : Int) (v : Value) : Array Value := #[.int .i64 m, v]

theorem cell_heap {w W : World} (h : W.heap = w.heap) (a : Addr) : W.cell? a = w.cell? a := by simp [World.cell?, h]

set_option maxHeartbeats 400000 in
/-- Now: the last of them, the same slice whenever it is asked. -/
theorem now_fix {w : World} {p m base : Nat} {v : Value} {xs : List Int} (h : w.heap[p]? = some (.cells (nuC m v) 34 (0, 0))) (ho : OwnI w base v xs) (hm : m ≤ 64) :
    ∃ a c, SeesI w (.slice a (lastN m xs).length c) (lastN m xs) ∧ ∀ W : World, W.heap = w.heap → Calls Try.prog 10 #[.pointer (some ⟨p, 0, none⟩)] W fun e w' => e = .returned (.slice a (lastN m xs).length c) ∧ ∃ n, w' = W.drewN n := by
  obtain ⟨a, c, rfl, hc1, hc2, hcell⟩ := ownI_shape ho
  have c0 : w.cell? ⟨p, 0, none⟩ = some (.int .i64 m) := cell_of_row w p 0 _ _ _ h
  have c1 : w.cell? ⟨p, 1, none⟩ = some (.slice a xs.length c) := cell_of_row w p 1 _ _ _ h
  have hl := lt_of_block h
  clear h ho
  unfold maxLen at hc2
  by_cases hle : xs.length ≤ m
  · have HS : Hid (SeesI w (.slice a (lastN m xs).length c) (lastN m xs) ∧ (lastN m xs).length = xs.length) := by
      rw [lastN_short hle]
      refine ⟨⟨a, c, rfl, hc1, by unfold maxLen; exact hc2, ?_⟩, rfl⟩
      rcases hcell with h | ⟨b, rfl, h⟩
      · exact .inl h
      · exact .inr ⟨b, 0, rfl, fun i hi => by rw [Nat.zero_add]; exact h i hi⟩
    clear hcell
    refine ⟨a, c, HS.out.1, fun W hW => ?_⟩
    rw [← cell_heap hW] at c0 c1
    rw [← hW] at hl
    clear hW
    rw [HS.out.2]
    clear HS
    go_enter Try.func10, Try.ntmps10
    go_wp2_with fail
    go_quiet (fail)
    go_wp2_with fail
    go_ret
    exact ⟨rfl, nq, rfl⟩
  · have hlen : (lastN m xs).length = m := by rw [lastN_length]; omega
    obtain ⟨b, rfl, hcell2⟩ : ∃ b, a = some ⟨b, 0, none⟩ ∧ ∀ (i : Nat) (h : i < xs.length), w.cell? ⟨b, i, none⟩ = some (.int .i64 xs[i]) := by
      rcases hcell with h | h
      · subst h; simp at hle
      · exact h
    have HS : Hid (SeesI w (.slice (if c = xs.length - m then some ⟨b, 0, none⟩ else some ⟨b, xs.length - m, none⟩) (lastN m xs).length (c - (xs.length - m))) (lastN m xs) ∧ (lastN m xs).length = m) := by
      refine ⟨⟨_, _, rfl, by omega, by unfold maxLen; omega, ?_⟩, hlen⟩
      by_cases hcc : c = xs.length - m
      · exact .inl (List.eq_nil_of_length_eq_zero (by omega))
      · rw [if_neg hcc]
        refine .inr ⟨b, xs.length - m, rfl, fun i hi => ?_⟩
        have hi' : xs.length - m + i < xs.length := by omega
        rw [hcell2 _ hi']
        simp [lastN]
    clear hcell hcell2 hlen
    refine ⟨_, _, HS.out.1, fun W hW => ?_⟩
    rw [← cell_heap hW] at c0 c1
    rw [← hW] at hl
    clear hW
    have e1 : (xs.length : Int) - m = ((xs.length - m : Nat) : Int) := by omega
    go_enter Try.func10, Try.ntmps10
    go_wp2_with fail
    go_quiet (fail)
    go_wp2_with fail
    go_quiet (fail)
    go_wp2_with fail
    all_goals
      go_ret
      refine ⟨?_, _, rfl⟩
      rw [HS.out.2]
      show Ending.returned (.slice _ _ _) = _
      rw [show xs.length - (xs.length - m) = m by omega]
    all_goals first
      | rw [if_pos (by assumption), show c - (xs.length - m) = 0 by omega]
      | rw [if_neg (by assumption)]

theorem SeesI.of_heap {w w' : World} {v : Value} {xs : List Int} (h : SeesI w v xs) (e : w'.heap = w.heap) : SeesI w' v xs := by
  obtain ⟨a, c, h1, h2, h3, h4⟩ := h
  refine ⟨a, c, h1, h2, h3, ?_⟩
  rcases h4 with h4 | ⟨b, off, h4, h5⟩
  · exact .inl h4
  · exact .inr ⟨b, off, h4, fun i hi => by rw [← h5 i hi]; simp [World.cell?, e]⟩

theorem at_any {w : World} {p m : Nat} {v : Value} {xs : List Int} (h : IsRg 72 w p m (xs.map (Value.int .i64))) (hs : SeesI w v xs) (n : Int) :
    Calls Try.prog 9 #[.pointer (some ⟨p, 0, none⟩), v, .int .i64 n] w fun e w' => e = .returned (.bool true) ∧ ∃ k, w' = w.drewN k := by
  obtain ⟨a, c, rfl, hc1, hc2, hcell⟩ := hs
  unfold maxLen at hc2
  by_cases hno : n < 0 ∨ (xs.length : Int) ≤ n
  · have HA : Hid (Calls Try.prog 19 #[.pointer (some ⟨p, 0, none⟩), .int .i64 n] w fun e w' => e = .returned (.tuple #[.int .i64 0, .bool false]) ∧ w' = w) := atI_no h n (by simpa using hno)
    clear h hcell
    by_cases h0 : n < 0
    · clear hno
      go_enter Try.func9, Try.ntmps9
      go_wp2_with (go_at_call 19; refine (HA.out).mono ?_; rintro e w' ⟨rfl, rfl⟩)
      all_goals (go_ret; exact ⟨rfl, 0, rfl⟩)
    · have h1 : (xs.length : Int) ≤ n := by omega
      clear hno
      go_enter Try.func9, Try.ntmps9
      go_wp2_with (go_at_call 19; refine (HA.out).mono ?_; rintro e w' ⟨rfl, rfl⟩)
      all_goals (go_ret; exact ⟨rfl, 0, rfl⟩)
  · obtain ⟨i, rfl⟩ : ∃ i : Nat, n = i := ⟨n.toNat, by omega⟩
    have hi : i < xs.length := by omega
    have HA : Hid (Calls Try.prog 19 #[.pointer (some ⟨p, 0, none⟩), .int .i64 i] w fun e w' => e = .returned (.tuple #[.int .i64 xs[i], .bool true]) ∧ ∃ n, w' = w.drewN n) := atI_yes h i _ (by simp [hi])
    rcases hcell with hx | ⟨b, off, rfl, hcell⟩
    · subst hx; simp at hi
    · have hc := hcell i hi
      clear hcell h hno
      generalize xs[i] = x at *
      go_enter Try.func9, Try.ntmps9
      go_wp2_with fail
      go_at_call 19
      refine (HA.out).mono ?_
      rintro e w' ⟨rfl, k, rfl⟩
      go_wp2_with fail
      all_goals (go_ret; exact ⟨by simp, k, rfl⟩)

end Go.Proofs.Ytcbbclniginciaa
