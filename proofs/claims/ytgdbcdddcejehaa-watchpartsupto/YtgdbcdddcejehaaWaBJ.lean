/- Plain facts: which paths lie above a path. No Go function is walked here. -/
import Derived.Test.YtgdbcdddcejehaaPaWJ
import Derived.Test.YtgdbcdddcejehaaWaAJ
import Derived.Test.YtgdbcdddcejehaaPaUJ
import Derived.Test.YtgdbcdddcejehaaPaYJ
import Derived.BigQuiet
namespace Go.Proofs.Ytgdbcdddcejehaa
open Go.RowKit Go.Shelf
set_option maxRecDepth 8000

theorem mem_slots : ∀ (l : Bs) (k i : Nat), (∃ x ∈ slots l k, x.1 = k + i + 1) ↔ i < l.length ∧ l.getD i 0 = 47
  | [], k, i => by simp [slots]
  | b :: r, k, i => by
    cases i with
    | zero =>
      have hge : ∀ x ∈ slots r (k + 1), k + 2 ≤ x.1 := fun x hx => by have := slots_ge r (k + 1) x hx; omega
      simp only [slots, Nat.add_zero]
      by_cases hb : b = 47
      · simp [hb]
      · rw [if_neg hb]
        constructor
        · rintro ⟨x, hx, e⟩; have := hge x hx; omega
        · rintro ⟨_, h⟩; simp at h; exact absurd h hb
    | succ i =>
      have ih := mem_slots r (k + 1) i
      have e : (∃ x ∈ slots (b :: r) k, x.1 = k + (i + 1) + 1) ↔ (∃ x ∈ slots r (k + 1), x.1 = k + 1 + i + 1) := by
        simp only [slots]
        split
        · simp only [List.mem_cons, exists_eq_or_imp]
          constructor
          · rintro (h | ⟨x, hx, h⟩)
            · omega
            · exact ⟨x, hx, by omega⟩
          · rintro ⟨x, hx, h⟩; exact .inr ⟨x, hx, by omega⟩
        · constructor
          · rintro ⟨x, hx, h⟩; exact ⟨x, hx, by omega⟩
          · rintro ⟨x, hx, h⟩; exact ⟨x, hx, by omega⟩
      rw [e, ih]
      simp

theorem split_at {l : Bs} {i : Nat} (h : i < l.length) (h47 : l.getD i 0 = 47) : l = l.take i ++ 47 :: l.drop (i + 1) := by
  rw [List.getD_eq_getElem?_getD, List.getElem?_eq_getElem h] at h47
  simp only [Option.getD_some] at h47
  conv => lhs; rw [← List.take_append_drop i l, List.drop_eq_getElem_cons h, h47]

theorem mem_abv {p : Bs} (hp : isPb p = true) (hl : p.length ≤ 4294967296) (h1 : p ≠ [47]) (q : Bs) : q ∈ abv p ↔ q = [47] ∨ (q ≠ [] ∧ ∃ b, p = q ++ 47 :: b) := by
  obtain ⟨r, hr⟩ := isPb_head hp hl
  have hab : abv p = (slots p 0).map fun x => p.take (max (x.1 - 1) 1) := by
    unfold abv
    rw [if_neg]
    rintro (h | h)
    · exact h1 h
    · rw [hp] at h; simp at h
  rw [hab, List.mem_map]
  constructor
  · rintro ⟨x, hx, rfl⟩
    have hge := slots_ge p 0 x hx
    have hm := (mem_slots p 0 (x.1 - 1)).1 ⟨x, hx, by omega⟩
    by_cases hz : x.1 - 1 = 0
    · left; rw [hz, hr]; simp
    · right
      rw [Nat.max_eq_left (by omega)]
      refine ⟨fun e => ?_, _, split_at hm.1 hm.2⟩
      have := congrArg List.length e
      rw [List.length_take] at this
      simp only [List.length_nil] at this
      omega
  · rintro (rfl | ⟨hq, b, hb⟩)
    · obtain ⟨x, hx, e⟩ := (mem_slots p 0 0).2 ⟨by rw [hr]; simp, by rw [hr]; simp⟩
      refine ⟨x, hx, ?_⟩
      rw [e, hr]; simp
    · have hpos : 1 ≤ q.length := List.length_pos_iff.2 hq
      obtain ⟨x, hx, e⟩ := (mem_slots p 0 q.length).2 ⟨by rw [hb]; simp, by rw [hb, getD_mid]⟩
      refine ⟨x, hx, ?_⟩
      rw [e, show 0 + q.length + 1 - 1 = q.length by omega, Nat.max_eq_left hpos, hb]
      simp

/-- What stands ahead of a slash of a path is a path. -/
theorem isPb_ahead {a b : Bs} (h : isPb (a ++ 47 :: b) = true) (ha : a ≠ []) (hl : (a ++ 47 :: b).length ≤ 4294967296) : isPb a = true := by
  obtain ⟨r, hr⟩ := isPb_head h hl
  cases a with
  | nil => exact absurd rfl ha
  | cons x a =>
    simp only [List.cons_append, List.cons.injEq] at hr
    obtain ⟨rfl, hr⟩ := hr
    have hla : (47 :: a).length ≤ 4294967296 := by simp at hl ⊢; omega
    rw [isPb_iff hla]
    by_cases h0 : a = []
    · left; rw [h0]
    · right
      rcases (isPb_iff hl).1 h with he | ⟨r', e, h64, hs⟩
      · simp at he
      · simp only [List.cons_append, List.cons.injEq, true_and] at e
        subst e
        refine ⟨a, rfl, by simp at h64 ⊢; omega, fun s hs' => hs s ?_⟩
        rw [segs_app]
        exact List.mem_append_left _ hs'

/-- What stands behind the last slash of a path is a name. -/
theorem isPb_behind {a b : Bs} (h : isPb (a ++ 47 :: b) = true) (hb : NoSlash b) (h1 : a ++ 47 :: b ≠ [47]) (hl : (a ++ 47 :: b).length ≤ 4294967296) : nmB b = true := by
  rw [nmB_iff]
  refine ⟨?_, hb⟩
  rcases (isPb_iff hl).1 h with he | ⟨r', e, h64, hs⟩
  · exact absurd he h1
  · cases a with
    | nil =>
      simp only [List.nil_append, List.cons.injEq, true_and] at e
      subst e
      exact hs b (by rw [segs_none hb]; simp)
    | cons x a =>
      simp only [List.cons_append, List.cons.injEq] at e
      obtain ⟨_, e⟩ := e
      subst e
      exact hs b (by rw [segs_app, segs_none hb]; simp)

/-- As the document asks: does the one lie below the other? -/
def belowB (p q : Bs) : Bool := isPb p && isPb q && decide (p ≠ [47]) && (decide (q = [47]) || decide (q.length < p.length ∧ p.take q.length = q ∧ p.getD q.length 0 = 47))

theorem below_doc (p q : Bs) (hp : p.length ≤ 4294967296) : decide (q ∈ abv p) = belowB p q := by
  unfold belowB
  by_cases h : p = [47] ∨ isPb p = false
  · have hab : abv p = [] := by unfold abv; rw [if_pos h]
    rw [hab]
    rcases h with h | h
    · simp [h]
    · simp [h]
  · have h47 : p ≠ [47] := fun e => h (.inl e)
    have hpb : isPb p = true := by
      cases e : isPb p with
      | true => rfl
      | false => exact absurd (.inr e) h
    rw [Bool.eq_iff_iff]
    simp only [decide_eq_true_eq, Bool.and_eq_true, Bool.or_eq_true, hpb, true_and]
    rw [mem_abv hpb hp h47]
    constructor
    · rintro (rfl | ⟨hq, b, rfl⟩)
      · exact ⟨⟨by decide, h47⟩, .inl rfl⟩
      · refine ⟨⟨isPb_ahead hpb hq hp, h47⟩, .inr ⟨by simp, by simp, getD_mid _ _ _⟩⟩
    · rintro ⟨⟨hq, _⟩, (rfl | ⟨h1, h2, h3⟩)⟩
      · exact .inl rfl
      · refine .inr ⟨fun e => ?_, p.drop (q.length + 1), ?_⟩
        · subst e; exact absurd hq (by decide)
        · have := split_at h1 h3
          rw [h2] at this
          exact this

end Go.Proofs.Ytgdbcdddcejehaa

/- What watch's isPath, wishOf, isChange and the four kinds' isMetBy answer. -/
namespace Go.Proofs.Ytgdbcdddcejehaa
open Go.RowKit Go.Shelf
set_option maxRecDepth 8000

theorem wIsPath_any (s : ByteArray) (w : World) (hl : s.size ≤ 4294967296) :
    Calls Try.prog 28 #[.string s] w fun e w' => e = .returned (.bool (isPb s.data.toList)) ∧ Below w.heap.size w w' := by
  have HC : Hid _ := check_any s w hl
  cases hb : isPb s.data.toList
  · rw [hb] at HC
    go_enter Try.func28, Try.ntmps28
    go_wp2_with fail
    refine Calls.mono HC.out ?_
    rintro e w1 ⟨rfl, hb1⟩
    rw [if_neg (by simp)]
    go_wp2
    all_goals (go_ret; exact ⟨rfl, hb1⟩)
  · rw [hb] at HC
    go_enter Try.func28, Try.ntmps28
    go_wp2_with fail
    refine Calls.mono HC.out ?_
    rintro e w1 ⟨rfl, hb1⟩
    rw [if_pos trivial]
    go_wp2
    all_goals (go_ret; exact ⟨rfl, hb1⟩)

/-- Is it a watch? a change? -/
def waOk (x : WaT) : Bool := isPb x.2.2.data.toList && (decide (1 ≤ x.2.1) && decide (x.2.1 ≤ 4))
def chOk (c : ChT) : Bool := decide (1 ≤ c.1) && (decide (c.1 ≤ 4) && isPb c.2.data.toList)

theorem ret_tup {a b c d : Value} (h1 : a = c) (h2 : b = d) : Ending.returned (.tuple #[a, b]) = Ending.returned (.tuple #[c, d]) := by rw [h1, h2]

set_option maxHeartbeats 1000000 in
theorem wishOf_any (x : WaT) (w : World) (hl : x.2.2.size ≤ 4294967296) :
    Calls Try.prog 21 #[.agg (waCs x)] w fun e w' => e = .returned (.tuple #[if waOk x then wishV x else .nilIface, .bool (waOk x)]) ∧ Below w.heap.size w w' := by
  obtain ⟨cl, kd, p⟩ := x
  have hB : Below w.heap.size w (w.alloc (.cells (waCs (cl, kd, p)) 30)) := (Below.refl _ w).alloc (Nat.le_refl _) _
  have hn0 : (w.alloc (.cells (waCs (cl, kd, p)) 30)).heap[w.heap.size]? = some (.cells (waCs (cl, kd, p)) 30 (0, 0)) := heap_alloc_new w _
  have HC : Hid (Calls Try.prog 28 #[.string p] (w.alloc (.cells (waCs (cl, kd, p)) 30)) fun e w' => e = .returned (.bool (isPb p.data.toList)) ∧ w'.heap[w.heap.size]? = some (.cells (waCs (cl, kd, p)) 30 (0, 0)) ∧ Hid (Below w.heap.size w w')) :=
    (wIsPath_any p _ hl).mono (fun e w' hh => ⟨hh.1, (hh.2.block _ (by simp)).trans hn0, hB.trans (hh.2.mono hB.size)⟩)
  clear hB hn0
  cases hb : isPb p.data.toList
  · rw [hb] at HC
    have hv : waOk (cl, kd, p) = false := by unfold waOk; rw [hb]; rfl
    rw [hv, if_neg (by simp)]
    clear hv hb
    go_enter Try.func21, Try.ntmps21
    go_wp2_with fail
    refine Calls.mono HC.out ?_
    rintro e w1 ⟨rfl, hc, HB⟩
    clear HC
    go_wp2
    all_goals (go_ret2; exact ⟨rfl, HB.out⟩)
  · rw [hb] at HC
    by_cases k1 : kd = 1
    · subst k1
      have hv : waOk (cl, 1, p) = true := by unfold waOk; rw [hb]; rfl
      rw [hv, if_pos rfl]
      clear hv hb
      go_enter Try.func21, Try.ntmps21
      go_wp2_with fail
      refine Calls.mono HC.out ?_
      rintro e w1 ⟨rfl, hc, HB⟩
      clear HC
      have hz := lt_of_block hc
      have c1 := cell_of_row w1 w.heap.size 1 _ _ _ hc
      have c2 := cell_of_row w1 w.heap.size 2 _ _ _ hc
      clear hc
      go_wp2
      all_goals (go_ret2; exact ⟨rfl, HB.out⟩)
    · by_cases k2 : kd = 2
      · subst k2
        have hv : waOk (cl, 2, p) = true := by unfold waOk; rw [hb]; rfl
        rw [hv, if_pos rfl]
        clear hv hb k1
        go_enter Try.func21, Try.ntmps21
        go_wp2_with fail
        refine Calls.mono HC.out ?_
        rintro e w1 ⟨rfl, hc, HB⟩
        clear HC
        have hz := lt_of_block hc
        have c1 := cell_of_row w1 w.heap.size 1 _ _ _ hc
        have c2 := cell_of_row w1 w.heap.size 2 _ _ _ hc
        clear hc
        go_wp2
        all_goals (go_ret2; exact ⟨rfl, HB.out⟩)
      · by_cases k3 : kd = 3
        · subst k3
          have hv : waOk (cl, 3, p) = true := by unfold waOk; rw [hb]; rfl
          rw [hv, if_pos rfl]
          clear hv hb k1 k2
          go_enter Try.func21, Try.ntmps21
          go_wp2_with fail
          refine Calls.mono HC.out ?_
          rintro e w1 ⟨rfl, hc, HB⟩
          clear HC
          have hz := lt_of_block hc
          have c1 := cell_of_row w1 w.heap.size 1 _ _ _ hc
          have c2 := cell_of_row w1 w.heap.size 2 _ _ _ hc
          clear hc
          go_wp2
          all_goals (go_ret2; exact ⟨rfl, HB.out⟩)
        · by_cases k4 : kd = 4
          · subst k4
            have hv : waOk (cl, 4, p) = true := by unfold waOk; rw [hb]; rfl
            rw [hv, if_pos rfl]
            clear hv hb k1 k2 k3
            go_enter Try.func21, Try.ntmps21
            go_wp2_with fail
            refine Calls.mono HC.out ?_
            rintro e w1 ⟨rfl, hc, HB⟩
            clear HC
            have hz := lt_of_block hc
            have c1 := cell_of_row w1 w.heap.size 1 _ _ _ hc
            have c2 := cell_of_row w1 w.heap.size 2 _ _ _ hc
            clear hc
            go_wp2
            all_goals (go_ret2; exact ⟨rfl, HB.out⟩)
          · have hv : waOk (cl, kd, p) = false := by
              unfold waOk
              rw [hb, Bool.true_and]
              by_cases h1 : 1 ≤ kd
              · have h4 : ¬ kd ≤ 4 := by omega
                simp [h4]
              · simp [h1]
            rw [hv, if_neg (by simp)]
            have d1 : (kd == 1) = false := by simpa using k1
            have d2 : (kd == 2) = false := by simpa using k2
            have d3 : (kd == 3) = false := by simpa using k3
            have d4 : (kd == 4) = false := by simpa using k4
            clear hv hb k1 k2 k3 k4
            go_enter Try.func21, Try.ntmps21
            go_wp2_with fail
            refine Calls.mono HC.out ?_
            rintro e w1 ⟨rfl, hc, HB⟩
            clear HC
            have hz := lt_of_block hc
            have c1 := cell_of_row w1 w.heap.size 1 _ _ _ hc
            have c2 := cell_of_row w1 w.heap.size 2 _ _ _ hc
            clear hc
            go_wp2
            all_goals (go_ret2; exact ⟨rfl, HB.out⟩)

end Go.Proofs.Ytgdbcdddcejehaa
