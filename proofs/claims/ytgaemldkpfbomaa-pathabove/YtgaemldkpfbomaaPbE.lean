/- Lists of texts that are the same; and what lies above a path, in order. -/
import Derived.Test.YtgaemldkpfbomaaPbC
import Derived.Test.YtgaemldkpfbomaaPbD
import Derived.BigQuiet
import Derived.Deep.QuietTactic
namespace Go.Proofs.Ytgaemldkpfbomaa
open Go.RowKit Go.Shelf
set_option maxRecDepth 8000

theorem rowT_cell {w : World} {base : Nat} {v : Value} {xs : List Bs} (h : w.ownsRow base 9 1 v xs.length (xs.map bytesV)) (k : Nat) (hk : k < xs.length) : ∃ g c, v = .slice (some ⟨g, 0, none⟩) xs.length c ∧ base ≤ g ∧ xs.length ≤ c ∧ c ≤ 9223372036854775807 ∧ w.cell? ⟨g, k, none⟩ = some (bytesV (xs[k])) := by
  rcases h.2 with ⟨_, h0⟩ | ⟨g, c, cur, rfl, h1, h2, h3, h4, _⟩
  · omega
  · refine ⟨g, c, rfl, h1, h3, by unfold maxLen at h4; omega, ?_⟩
    have := h.cellAt k (by simpa using hk)
    rw [this]
    simp [hk]

set_option maxHeartbeats 1000000 in
theorem eqTexts_same (v1 v2 : Value) (xs : List Bs) (n1 n2 : Nat) (w : World) (h1 : w.ownsRow n1 9 1 v1 xs.length (xs.map bytesV)) (h2 : w.ownsRow n2 9 1 v2 xs.length (xs.map bytesV)) :
    Calls Try.prog 17 #[v1, v2] w fun e w' => e = .returned (.bool true) ∧ ∃ n, w' = w.drewN n := by
  obtain ⟨a1, c1, rfl⟩ := row_shape h1
  obtain ⟨a2, c2, rfl⟩ := row_shape h2
  have H : Hid (w.ownsRow n1 9 1 (.slice a1 xs.length c1) xs.length (xs.map bytesV) ∧ w.ownsRow n2 9 1 (.slice a2 xs.length c2) xs.length (xs.map bytesV)) := ⟨h1, h2⟩
  clear h1 h2
  go_enter Try.func17, Try.ntmps17
  go_wp2
  go_loopw [5] (fun i wr => ∃ k m : Nat, k ≤ xs.length ∧ i = .int .i64 k ∧ wr = w.drewN m) (fun i _ => xs.length - (intOf i).toNat)
  case atStart => exact ⟨0, 0, Nat.zero_le _, rfl, rfl⟩
  case round =>
    obtain ⟨k, m, hk, rfl, rfl⟩ := hrel
    by_cases hlt : k < xs.length
    · obtain ⟨g1, d1, e1, _, hc1, hm1, q1⟩ := rowT_cell H.out.1 k hlt
      obtain ⟨g2, d2, e2, _, hc2, hm2, q2⟩ := rowT_cell H.out.2 k hlt
      simp only [Value.slice.injEq] at e1 e2
      obtain ⟨rfl, _, rfl⟩ := e1
      obtain ⟨rfl, _, rfl⟩ := e2
      generalize xs[k] = x at *
      go_wp2
      go_quiet (fail)
      go_wp2
      go_roundw
      case rel => exact ⟨k + 1, _, by omega, by go_num, rfl⟩
      case measure => simp [intOf]; omega
    · obtain rfl : k = xs.length := by omega
      go_wp2
      go_ret
      exact ⟨rfl, m, rfl⟩

theorem places_app : ∀ (a c : Bs) (k : Nat), (slots (a ++ c) k).map Prod.fst = (slots a k).map Prod.fst ++ (slots c (k + a.length)).map Prod.fst
  | [], c, k => by simp [slots]
  | x :: a, c, k => by
    have ih := places_app a c (k + 1)
    have e : k + 1 + a.length = k + (x :: a).length := by simp; omega
    rw [e] at ih
    simp only [List.cons_append, slots]
    split
    · simp only [List.map_cons, ih, List.cons_append]
    · exact ih

theorem abv_places {p : Bs} (h : ¬ (p = [47] ∨ isPb p = false)) : abv p = ((slots p 0).map Prod.fst).map fun j => p.take (max (j - 1) 1) := by
  unfold abv
  rw [if_neg h, List.map_map]
  rfl

/-- Above a path: what lies above its parent, and the parent. -/
theorem abv_par {p : Bs} (hp : isPb p = true) (h1 : p ≠ [47]) (hl : p.length ≤ 4294967296) : abv p = abv (parL p) ++ [parL p] := by
  obtain ⟨a, b, hab, hn, ha47, hpar, _⟩ := par_bas hp h1 hl
  have hcond : ¬ (p = [47] ∨ isPb p = false) := by rintro (e | e); exact h1 e; rw [hp] at e; simp at e
  have hpl : (slots p 0).map Prod.fst = (slots a 0).map Prod.fst ++ [a.length + 1] := by
    rw [hab, places_app, show (47 :: b : Bs) = [47] ++ b from rfl, places_app]
    simp [slots, slots_none hn]
  rw [abv_places hcond, hpl, List.map_append, hpar]
  by_cases ha : a = []
  · subst ha
    have hr : abv [47] = [] := by unfold abv; rw [if_pos (.inl rfl)]
    rw [if_pos rfl, hr, hab]
    simp [slots]
  · rw [if_neg ha]
    have hpos : 1 ≤ a.length := List.length_pos_iff.2 ha
    have hpa : isPb a = true := isPb_ahead (by rw [← hab]; exact hp) ha (by rw [← hab]; exact hl)
    have hcond2 : ¬ (a = [47] ∨ isPb a = false) := by rintro (e | e); exact ha47 e; rw [hpa] at e; simp at e
    rw [abv_places hcond2]
    congr 1
    · apply List.map_congr_left
      intro j hj
      obtain ⟨x, hx, rfl⟩ := List.mem_map.1 hj
      have := slots_le a 0 x hx
      rw [hab, List.take_append_of_le_length (by omega)]
    · simp only [List.map_cons, List.map_nil, Nat.add_sub_cancel, Nat.max_eq_left hpos]
      rw [hab]
      simp

theorem abv_self {p : Bs} (hp : isPb p = true) (h1 : p ≠ [47]) (hl : p.length ≤ 4294967296) : p ∉ abv p := by
  rw [mem_abv hp hl h1]
  rintro (h | ⟨_, b, h⟩)
  · exact h1 h
  · have := congrArg List.length h
    simp at this

theorem abv_nil {p : Bs} (h : p = [47] ∨ isPb p = false) : abv p = [] := by unfold abv; rw [if_pos h]

theorem abv_trans {p q o : Bs} (hp : isPb p = true) (h1 : p ≠ [47]) (hl : p.length ≤ 4294967296) (hq : q ∈ abv p) (ho : o ∈ abv q) : o ∈ abv p := by
  have hq2 : ¬ (q = [47] ∨ isPb q = false) := fun h => by rw [abv_nil h] at ho; simp at ho
  have hqp : isPb q = true := by
    cases e : isPb q with
    | true => rfl
    | false => exact absurd (.inr e) hq2
  have hql : q.length ≤ 4294967296 := by
    rcases (mem_abv hp hl h1 q).1 hq with h | ⟨_, b, h⟩
    · rw [h]; decide
    · rw [h] at hl; simp at hl; omega
  rw [mem_abv hp hl h1]
  rcases (mem_abv hqp hql (fun e => hq2 (.inl e)) o).1 ho with h | ⟨h0, b2, hb2⟩
  · exact .inl h
  · rcases (mem_abv hp hl h1 q).1 hq with h | ⟨_, b1, hb1⟩
    · exact absurd (.inl h) hq2
    · exact .inr ⟨h0, b2 ++ 47 :: b1, by rw [hb1, hb2]; simp⟩

end Go.Proofs.Ytgaemldkpfbomaa
