/- What path.Below answers: is the one among the paths above the other? -/
import Derived.Test.YtkcapiblicfboaaGreatDoorPaWJ
import Derived.Test.YtkcapiblicfboaaGreatDoorWaAJ
import Derived.Test.YtkcapiblicfboaaGreatDoorPaUJ
import Derived.BigQuiet
namespace Go.Proofs.YtkcapiblicfboaaGreatDoor
open Go.RowKit Go.Shelf
set_option maxRecDepth 8000
attribute [local go_sem] Oper.semAt_some

set_option maxHeartbeats 1000000 in
theorem below_any (s q : ByteArray) (w : World) (hl : s.size ≤ 4294967296) :
    Calls Tryz.prog 146 #[.string s, .string q] w fun e w' => e = .returned (.bool (decide (q.data.toList ∈ abv s.data.toList))) ∧ Below w.heap.size w w' := by
  refine (callsIn_wide (n := 0)).1 ?_
  refine callsIn_of_wp_marks Tryz.func146 rfl trivial ?_ rfl
  simp only [Tryz.ntmps146, List.size_toArray, List.length_cons, List.length_nil, Nat.reduceAdd, Nat.reduceSub, Array.replicate_succ, Array.replicate_zero, List.push_toArray, List.append_toArray, List.nil_append, List.cons_append]
  gi_wp2_with fail
  refine ⟨trivial, rfl, (callsIn_wide.2 (above_any _ _)).mono ?_⟩
  rintro e w1 ⟨rfl, rfl⟩
  gi_wp2_with fail
  obtain ⟨W0, hW0⟩ : ∃ W0, ((w.alloc (.cells #[.string q] 9)).alloc (.cells #[.bool false] 4)).alloc (.cells #[.string s] 9) = W0 := ⟨_, rfl⟩
  have b0 : W0.heap[w.heap.size]? = some (.cells #[.string q] 9 (0, 0)) := by
    rw [← hW0, Below.heap_alloc _ _ _ (by simp; omega), Below.heap_alloc _ _ _ (by simp)]; exact heap_alloc_new _ _
  have b1 : W0.heap[w.heap.size + 1]? = some (.cells #[.bool false] 4 (0, 0)) := by
    rw [← hW0, Below.heap_alloc _ _ _ (by simp)]
    have := heap_alloc_new (w.alloc (.cells #[.string q] 9)) (.cells #[.bool false] 4); rwa [World.size_alloc] at this
  have b2 : W0.heap[w.heap.size + 1 + 1]? = some (.cells #[.string s] 9 (0, 0)) := by
    rw [← hW0]
    have := heap_alloc_new ((w.alloc (.cells #[.string q] 9)).alloc (.cells #[.bool false] 4)) (.cells #[.string s] 9); rwa [World.size_alloc, World.size_alloc] at this
  have B0 : Below w.heap.size w W0 := by rw [← hW0]; exact (((Below.refl _ w).alloc (Nat.le_refl _) _).alloc (by simp) _).alloc (by simp; omega) _
  have z0 : W0.heap.size = w.heap.size + 3 := by rw [← hW0]; simp
  rw [hW0]
  clear hW0
  refine range_R (gf := 148) (lb := #[.pointer (some ⟨w.heap.size + 1 + 1, 0, none⟩)]) rfl (enters_of Tryz.func148 (by kernel_rfl) rfl)
    (above1_seq (w.heap.size + 1 + 1) s W0 b2 hl) (fun _ => rfl)
    (fun k hk => by omega)
    (fun pre x Wb W l r o h hl => h)
    (fun D pre W => W.heap[w.heap.size]? = some (.cells #[.string q] 9 (0, 0)) ∧ W.heap[w.heap.size + 1]? = some (.cells #[.bool false] 4 (0, 0)) ∧ ¬ D w.heap.size ∧ ¬ D (w.heap.size + 1) ∧ Mine w.heap.size w (fun k => k = w.heap.size + 1 + 1) D W ∧ q.data.toList ∉ pre)
    (fun c D pre W => c = .ret ∧ W.heap[w.heap.size + 1]? = some (.cells #[.bool true] 4 (0, 0)) ∧ ¬ D (w.heap.size + 1) ∧ Mine w.heap.size w (fun k => k = w.heap.size + 1 + 1) D W ∧ q.data.toList ∈ abv s.data.toList)
    (fun D D' s W W' h hk hD => ⟨hk.heap h.1 (fun hd => h.2.2.1 hd.1), hk.heap h.2.1 (fun hd => h.2.2.2.1 hd.1), keep_new h.1 h.2.2.1 hD, keep_new h.2.1 h.2.2.2.1 hD, h.2.2.2.2.1.stays hk hD, h.2.2.2.2.2⟩)
    (fun c D D' s W W' h hk hD => ⟨h.1, hk.heap h.2.1 (fun hd => h.2.2.1 hd.1), keep_new h.2.1 h.2.2.1 hD, h.2.2.2.1.stays hk hD, h.2.2.2.2⟩)
    ⟨b0, b1, fun h => by omega, fun h => by omega, ⟨Nat.le_refl _, B0, fun k hk hn => absurd hk hn⟩, by simp⟩
    (fun x => { tmps := #[.string s, .string q, undef, .pointer (some ⟨w.heap.size, 0, none⟩), .pointer (some ⟨w.heap.size + 1, 0, none⟩), bytesV x, .string s, .func (.func 148) #[] #[.pointer (some ⟨w.heap.size + 1 + 1, 0, none⟩)], bytesV x, undef, undef, undef], defers := [] }) ?assign ?body ?done ?stop
  case assign =>
    intro l x W K hK
    simp only [abvEnc]
    gi_wp2
    exact hK
  case body =>
    rintro l D pre x Wb W hl' hrec hDl hsub ⟨hb0, hb1, nD0, nD1, hm, hnq⟩ hk ⟨t, hst⟩
    have h0 : W.heap[w.heap.size]? = some (.cells #[.string q] 9 (0, 0)) := hk.heap hb0 (fun hd => nD0 hd.1)
    have h1 : W.heap[w.heap.size + 1]? = some (.cells #[.bool false] 4 (0, 0)) := hk.heap hb1 (fun hd => nD1 hd.1)
    have hm2 := hm.stays hk (fun k hk' => .inl hk')
    have hc0 : W.cell? ⟨w.heap.size, 0, none⟩ = some (.string q) := cell_of_row W w.heap.size 0 _ _ _ h0
    have hc1 : W.cell? ⟨w.heap.size + 1, 0, none⟩ = some (.bool false) := cell_of_row W (w.heap.size + 1) 0 _ _ _ h1
    have hfro : W.frozen? ⟨w.heap.size + 1, 0, none⟩ = false := frozen_of_row W (w.heap.size + 1) 0 _ _ h1
    obtain ⟨xb, hxb⟩ : ∃ xb : ByteArray, xb = ⟨x.toArray⟩ := ⟨_, rfl⟩
    have hbv : bytesV x = .string xb := by rw [hxb]
    have hxl : xb.data.toList = x := by rw [hxb]
    rw [hbv]
    by_cases he : x = q.data.toList
    · have heq : (xb.toList == q.toList) = true := by rw [toList_eq, toList_eq, hxl, he]; simp
      have HS : Hid (Kept W (W.setCell ⟨w.heap.size + 1, 0, none⟩ (.bool true)) (fun k => ¬ D k) ∧ (W.setCell ⟨w.heap.size + 1, 0, none⟩ (.bool true)).heap[w.heap.size + 1]? = some (.cells #[.bool true] 4 (0, 0)) ∧ ¬ D (w.heap.size + 1) ∧ Mine w.heap.size w (fun k => k = w.heap.size + 1 + 1) D (W.setCell ⟨w.heap.size + 1, 0, none⟩ (.bool true)) ∧ q.data.toList ∈ abv s.data.toList) :=
        ⟨(Kept.refl W _).setCell ⟨w.heap.size + 1, 0, none⟩ _ (fun _ => nD1), Boxed.set _ h1, nD1, ⟨hm2.1, hm2.2.1.setCell (p := ⟨w.heap.size + 1, 0, none⟩) (by simp) _, hm2.2.2⟩, by rw [hst, ← he]; simp⟩
      clear hxb hbv hxl he hb0 hb1 hm hm2 hnq hst hk hsub hDl hrec nD0 nD1 h0 h1 b0 b1 b2 B0
      gi_wp2
      exact ⟨HS.out.1, rfl, HS.out.2⟩
    · have heq : (xb.toList == q.toList) = false := by rw [toList_eq, toList_eq, hxl]; simpa using he
      have HS : Hid (Kept W W (fun k => ¬ D k) ∧ W.heap[w.heap.size]? = some (.cells #[.string q] 9 (0, 0)) ∧ W.heap[w.heap.size + 1]? = some (.cells #[.bool false] 4 (0, 0)) ∧ ¬ D w.heap.size ∧ ¬ D (w.heap.size + 1) ∧ Mine w.heap.size w (fun k => k = w.heap.size + 1 + 1) D W ∧ q.data.toList ∉ pre ++ [x]) := by
        refine ⟨Kept.refl W _, h0, h1, nD0, nD1, hm2, ?_⟩
        simp only [List.mem_append, List.mem_cons, List.not_mem_nil, or_false, not_or]
        exact ⟨hnq, fun e => he e.symm⟩
      clear hxb hbv hxl he hb0 hb1 hm hm2 hnq hst hk hsub hDl hrec nD0 nD1 h0 h1 b0 b1 b2 B0
      gi_wp2
      exact HS.out
  case done =>
    rintro d D ys W hd _ hS ⟨hb0, hb1, _, _, hm, hnq⟩ hK
    have hcell : W.cell? ⟨w.heap.size + 1, 0, none⟩ = some (.bool false) := cell_of_row W (w.heap.size + 1) 0 _ _ _ hb1
    have hfro : W.frozen? ⟨w.heap.size + 1, 0, none⟩ = false := frozen_of_row W (w.heap.size + 1) 0 _ _ hb1
    obtain ⟨X, hX⟩ : ∃ X, X = W.setCell ⟨w.heap.size + 1, 0, none⟩ (.bool false) := ⟨_, rfl⟩
    have kX : Kept W X (· = w.heap.size + 1) := by rw [hX]; exact (Kept.refl W (· = w.heap.size + 1)).setCell ⟨w.heap.size + 1, 0, none⟩ _ (fun _ => rfl)
    have dX : X.heap[d]? = some (.deferred (some [])) := kX.heap hK (fun e => by omega)
    have xb : X.heap[w.heap.size + 1]? = some (.cells #[.bool false] 4 (0, 0)) := by rw [hX]; exact Boxed.set _ hb1
    have yb : (X.putObj d (.deferred none)).heap[w.heap.size + 1]? = some (.cells #[.bool false] 4 (0, 0)) := by rw [World.putObj_heap_other (by omega)]; exact xb
    have y0 : (X.putObj d (.deferred none)).cell? ⟨w.heap.size + 1, 0, none⟩ = some (.bool false) := cell_of_row _ (w.heap.size + 1) 0 _ _ _ yb
    have HE : Hid (decide (q.data.toList ∈ abv s.data.toList) = false ∧ Below w.heap.size w (X.putObj d (.deferred none))) := by
      refine ⟨decide_eq_false (by rw [← hS]; exact hnq), hm.2.1.trans (((kX.mono (fun k _ e => .inl e)).trans (kept_putObj X d _) (fun k _ e => .inr e) : Kept W _ (fun k => k = w.heap.size + 1 ∨ k = d)).below hm.2.1.size (fun k e => by omega))⟩
    have HX : Hid (X = W.setCell ⟨w.heap.size + 1, 0, none⟩ (.bool false) ∧ X.heap[d]? = some (.deferred (some []))) := ⟨hX, dX⟩
    clear hb0 hb1 hm hnq hK hS kX dX xb yb hX b0 b1 b2 B0
    gi_wp2
    rw [← HX.out.1]
    refine ⟨by simp, .inl ⟨_, _, rfl, run_takeDeferred HX.out.2, ?_⟩⟩
    refine ⟨.bool false, ?_, by rw [HE.out.1], HE.out.2⟩
    have hres : Tryz.f146.results = #[.cell 4 4] := by kernel_rfl
    simp only [results, hres]
    go_simp
  case stop =>
    rintro d D c pre W hd _ _ ⟨rfl, hb1, hnD, hm, hmem⟩ hK
    have yb : (W.putObj d (.deferred none)).heap[w.heap.size + 1]? = some (.cells #[.bool true] 4 (0, 0)) := by rw [World.putObj_heap_other (by omega)]; exact hb1
    have y0 : (W.putObj d (.deferred none)).cell? ⟨w.heap.size + 1, 0, none⟩ = some (.bool true) := cell_of_row _ (w.heap.size + 1) 0 _ _ _ yb
    have HM : Hid (decide (q.data.toList ∈ abv s.data.toList) = true) := decide_eq_true hmem
    refine wpIn_ret ?_
    refine ⟨by simp, .inl ⟨_, _, rfl, run_takeDeferred hK, ?_⟩⟩
    refine ⟨.bool true, ?_, by rw [HM.out], hm.2.1.trans ((kept_putObj W d _).below hm.2.1.size (fun k e => by subst e; omega))⟩
    have hres : Tryz.f146.results = #[.cell 4 4] := by kernel_rfl
    simp only [results, hres]
    go_simp

end Go.Proofs.YtkcapiblicfboaaGreatDoor

/- Plain facts: which paths lie above a path. No Go function is walked here. -/
namespace Go.Proofs.YtkcapiblicfboaaGreatDoor
open Go.RowKit Go.Shelf
set_option maxRecDepth 8000

theorem mem_slots : ∀ (l : Bs) (k i : Nat), (∃ x ∈ slots l k, x.1 = k + i + 1) ↔ i < l.length ∧ l.getD i 0 = 47
  | [], k, i => by simp [slots]
  | b :: r, k, i => by
    cases i with
    | zero =>
      have hge : ∀ x ∈ slots r (k + 1), k + 2 ≤ x.1 := fun x hx => by have := slots_ge r (k + 1) x hx; omega
      simp only [slots, Nat.add_zero]
      by_cases hb : b = 47
      · simp [hb]
      · rw [if_neg hb]
        constructor
        · rintro ⟨x, hx, e⟩; have := hge x hx; omega
        · rintro ⟨_, h⟩; simp at h; exact absurd h hb
    | succ i =>
      have ih := mem_slots r (k + 1) i
      have e : (∃ x ∈ slots (b :: r) k, x.1 = k + (i + 1) + 1) ↔ (∃ x ∈ slots r (k + 1), x.1 = k + 1 + i + 1) := by
        simp only [slots]
        split
        · simp only [List.mem_cons, exists_eq_or_imp]
          constructor
          · rintro (h | ⟨x, hx, h⟩)
            · omega
            · exact ⟨x, hx, by omega⟩
          · rintro ⟨x, hx, h⟩; exact .inr ⟨x, hx, by omega⟩
        · constructor
          · rintro ⟨x, hx, h⟩; exact ⟨x, hx, by omega⟩
          · rintro ⟨x, hx, h⟩; exact ⟨x, hx, by omega⟩
      rw [e, ih]
      simp

theorem split_at {l : Bs} {i : Nat} (h : i < l.length) (h47 : l.getD i 0 = 47) : l = l.take i ++ 47 :: l.drop (i + 1) := by
  rw [List.getD_eq_getElem?_getD, List.getElem?_eq_getElem h] at h47
  simp only [Option.getD_some] at h47
  conv => lhs; rw [← List.take_append_drop i l, List.drop_eq_getElem_cons h, h47]

theorem mem_abv {p : Bs} (hp : isPb p = true) (hl : p.length ≤ 4294967296) (h1 : p ≠ [47]) (q : Bs) : q ∈ abv p ↔ q = [47] ∨ (q ≠ [] ∧ ∃ b, p = q ++ 47 :: b) := by
  obtain ⟨r, hr⟩ := isPb_head hp hl
  have hab : abv p = (slots p 0).map fun x => p.take (max (x.1 - 1) 1) := by
    unfold abv
    rw [if_neg]
    rintro (h | h)
    · exact h1 h
    · rw [hp] at h; simp at h
  rw [hab, List.mem_map]
  constructor
  · rintro ⟨x, hx, rfl⟩
    have hge := slots_ge p 0 x hx
    have hm := (mem_slots p 0 (x.1 - 1)).1 ⟨x, hx, by omega⟩
    by_cases hz : x.1 - 1 = 0
    · left; rw [hz, hr]; simp
    · right
      rw [Nat.max_eq_left (by omega)]
      refine ⟨fun e => ?_, _, split_at hm.1 hm.2⟩
      have := congrArg List.length e
      rw [List.length_take] at this
      simp only [List.length_nil] at this
      omega
  · rintro (rfl | ⟨hq, b, hb⟩)
    · obtain ⟨x, hx, e⟩ := (mem_slots p 0 0).2 ⟨by rw [hr]; simp, by rw [hr]; simp⟩
      refine ⟨x, hx, ?_⟩
      rw [e, hr]; simp
    · have hpos : 1 ≤ q.length := List.length_pos_iff.2 hq
      obtain ⟨x, hx, e⟩ := (mem_slots p 0 q.length).2 ⟨by rw [hb]; simp, by rw [hb, getD_mid]⟩
      refine ⟨x, hx, ?_⟩
      rw [e, show 0 + q.length + 1 - 1 = q.length by omega, Nat.max_eq_left hpos, hb]
      simp

/-- What stands ahead of a slash of a path is a path. -/
theorem isPb_ahead {a b : Bs} (h : isPb (a ++ 47 :: b) = true) (ha : a ≠ []) (hl : (a ++ 47 :: b).length ≤ 4294967296) : isPb a = true := by
  obtain ⟨r, hr⟩ := isPb_head h hl
  cases a with
  | nil => exact absurd rfl ha
  | cons x a =>
    simp only [List.cons_append, List.cons.injEq] at hr
    obtain ⟨rfl, hr⟩ := hr
    have hla : (47 :: a).length ≤ 4294967296 := by simp at hl ⊢; omega
    rw [isPb_iff hla]
    by_cases h0 : a = []
    · left; rw [h0]
    · right
      rcases (isPb_iff hl).1 h with he | ⟨r', e, h64, hs⟩
      · simp at he
      · simp only [List.cons_append, List.cons.injEq, true_and] at e
        subst e
        refine ⟨a, rfl, by simp at h64 ⊢; omega, fun s hs' => hs s ?_⟩
        rw [segs_app]
        exact List.mem_append_left _ hs'

/-- What stands behind the last slash of a path is a name. -/
theorem isPb_behind {a b : Bs} (h : isPb (a ++ 47 :: b) = true) (hb : NoSlash b) (h1 : a ++ 47 :: b ≠ [47]) (hl : (a ++ 47 :: b).length ≤ 4294967296) : nmB b = true := by
  rw [nmB_iff]
  refine ⟨?_, hb⟩
  rcases (isPb_iff hl).1 h with he | ⟨r', e, h64, hs⟩
  · exact absurd he h1
  · cases a with
    | nil =>
      simp only [List.nil_append, List.cons.injEq, true_and] at e
      subst e
      exact hs b (by rw [segs_none hb]; simp)
    | cons x a =>
      simp only [List.cons_append, List.cons.injEq] at e
      obtain ⟨_, e⟩ := e
      subst e
      exact hs b (by rw [segs_app, segs_none hb]; simp)

/-- As the document asks: does the one lie below the other? -/
def belowB (p q : Bs) : Bool := isPb p && isPb q && decide (p ≠ [47]) && (decide (q = [47]) || decide (q.length < p.length ∧ p.take q.length = q ∧ p.getD q.length 0 = 47))

theorem below_doc (p q : Bs) (hp : p.length ≤ 4294967296) : decide (q ∈ abv p) = belowB p q := by
  unfold belowB
  by_cases h : p = [47] ∨ isPb p = false
  · have hab : abv p = [] := by unfold abv; rw [if_pos h]
    rw [hab]
    rcases h with h | h
    · simp [h]
    · simp [h]
  · have h47 : p ≠ [47] := fun e => h (.inl e)
    have hpb : isPb p = true := by
      cases e : isPb p with
      | true => rfl
      | false => exact absurd (.inr e) h
    rw [Bool.eq_iff_iff]
    simp only [decide_eq_true_eq, Bool.and_eq_true, Bool.or_eq_true, hpb, true_and]
    rw [mem_abv hpb hp h47]
    constructor
    · rintro (rfl | ⟨hq, b, rfl⟩)
      · exact ⟨⟨by decide, h47⟩, .inl rfl⟩
      · refine ⟨⟨isPb_ahead hpb hq hp, h47⟩, .inr ⟨by simp, by simp, getD_mid _ _ _⟩⟩
    · rintro ⟨⟨hq, _⟩, (rfl | ⟨h1, h2, h3⟩)⟩
      · exact .inl rfl
      · refine .inr ⟨fun e => ?_, p.drop (q.length + 1), ?_⟩
        · subst e; exact absurd hq (by decide)
        · have := split_at h1 h3
          rw [h2] at this
          exact this

end Go.Proofs.YtkcapiblicfboaaGreatDoor

/- What watch's isPath, wishOf, isChange and the four kinds' isMetBy answer. -/
namespace Go.Proofs.YtkcapiblicfboaaGreatDoor
open Go.RowKit Go.Shelf
set_option maxRecDepth 8000

theorem wIsPath_any (s : ByteArray) (w : World) (hl : s.size ≤ 4294967296) :
    Calls Tryz.prog 79 #[.string s] w fun e w' => e = .returned (.bool (isPb s.data.toList)) ∧ Below w.heap.size w w' := by
  have HC : Hid _ := check_any s w hl
  cases hb : isPb s.data.toList
  · rw [hb] at HC
    go_enter Tryz.func79, Tryz.ntmps79
    go_wp2_with fail
    refine Calls.mono HC.out ?_
    rintro e w1 ⟨rfl, hb1⟩
    rw [if_neg (by simp)]
    go_wp2
    all_goals (go_ret; exact ⟨rfl, hb1⟩)
  · rw [hb] at HC
    go_enter Tryz.func79, Tryz.ntmps79
    go_wp2_with fail
    refine Calls.mono HC.out ?_
    rintro e w1 ⟨rfl, hb1⟩
    rw [if_pos trivial]
    go_wp2
    all_goals (go_ret; exact ⟨rfl, hb1⟩)

/-- Is it a watch? a change? -/
def waOk (x : WaT) : Bool := isPb x.2.2.data.toList && (decide (1 ≤ x.2.1) && decide (x.2.1 ≤ 4))
def chOk (c : ChT) : Bool := decide (1 ≤ c.1) && (decide (c.1 ≤ 4) && isPb c.2.data.toList)

theorem ret_tup {a b c d : Value} (h1 : a = c) (h2 : b = d) : Ending.returned (.tuple #[a, b]) = Ending.returned (.tuple #[c, d]) := by rw [h1, h2]

set_option maxHeartbeats 1000000 in
theorem wishOf_any (x : WaT) (w : World) (hl : x.2.2.size ≤ 4294967296) :
    Calls Tryz.prog 49 #[.agg (waCs x)] w fun e w' => e = .returned (.tuple #[if waOk x then wishV x else .nilIface, .bool (waOk x)]) ∧ Below w.heap.size w w' := by
  obtain ⟨cl, kd, p⟩ := x
  have hB : Below w.heap.size w (w.alloc (.cells (waCs (cl, kd, p)) 57)) := (Below.refl _ w).alloc (Nat.le_refl _) _
  have hn0 : (w.alloc (.cells (waCs (cl, kd, p)) 57)).heap[w.heap.size]? = some (.cells (waCs (cl, kd, p)) 57 (0, 0)) := heap_alloc_new w _
  have HC : Hid (Calls Tryz.prog 79 #[.string p] (w.alloc (.cells (waCs (cl, kd, p)) 57)) fun e w' => e = .returned (.bool (isPb p.data.toList)) ∧ w'.heap[w.heap.size]? = some (.cells (waCs (cl, kd, p)) 57 (0, 0)) ∧ Hid (Below w.heap.size w w')) :=
    (wIsPath_any p _ hl).mono (fun e w' hh => ⟨hh.1, (hh.2.block _ (by simp)).trans hn0, hB.trans (hh.2.mono hB.size)⟩)
  clear hB hn0
  cases hb : isPb p.data.toList
  · rw [hb] at HC
    have hv : waOk (cl, kd, p) = false := by unfold waOk; rw [hb]; rfl
    rw [hv, if_neg (by simp)]
    clear hv hb
    go_enter Tryz.func49, Tryz.ntmps49
    go_wp2_with fail
    refine Calls.mono HC.out ?_
    rintro e w1 ⟨rfl, hc, HB⟩
    clear HC
    go_wp2
    all_goals (go_ret2; exact ⟨rfl, HB.out⟩)
  · rw [hb] at HC
    by_cases k1 : kd = 1
    · subst k1
      have hv : waOk (cl, 1, p) = true := by unfold waOk; rw [hb]; rfl
      rw [hv, if_pos rfl]
      clear hv hb
      go_enter Tryz.func49, Tryz.ntmps49
      go_wp2_with fail
      refine Calls.mono HC.out ?_
      rintro e w1 ⟨rfl, hc, HB⟩
      clear HC
      have hz := lt_of_block hc
      have c1 := cell_of_row w1 w.heap.size 1 _ _ _ hc
      have c2 := cell_of_row w1 w.heap.size 2 _ _ _ hc
      clear hc
      go_wp2
      all_goals (go_ret2; exact ⟨rfl, HB.out⟩)
    · by_cases k2 : kd = 2
      · subst k2
        have hv : waOk (cl, 2, p) = true := by unfold waOk; rw [hb]; rfl
        rw [hv, if_pos rfl]
        clear hv hb k1
        go_enter Tryz.func49, Tryz.ntmps49
        go_wp2_with fail
        refine Calls.mono HC.out ?_
        rintro e w1 ⟨rfl, hc, HB⟩
        clear HC
        have hz := lt_of_block hc
        have c1 := cell_of_row w1 w.heap.size 1 _ _ _ hc
        have c2 := cell_of_row w1 w.heap.size 2 _ _ _ hc
        clear hc
        go_wp2
        all_goals (go_ret2; exact ⟨rfl, HB.out⟩)
      · by_cases k3 : kd = 3
        · subst k3
          have hv : waOk (cl, 3, p) = true := by unfold waOk; rw [hb]; rfl
          rw [hv, if_pos rfl]
          clear hv hb k1 k2
          go_enter Tryz.func49, Tryz.ntmps49
          go_wp2_with fail
          refine Calls.mono HC.out ?_
          rintro e w1 ⟨rfl, hc, HB⟩
          clear HC
          have hz := lt_of_block hc
          have c1 := cell_of_row w1 w.heap.size 1 _ _ _ hc
          have c2 := cell_of_row w1 w.heap.size 2 _ _ _ hc
          clear hc
          go_wp2
          all_goals (go_ret2; exact ⟨rfl, HB.out⟩)
        · by_cases k4 : kd = 4
          · subst k4
            have hv : waOk (cl, 4, p) = true := by unfold waOk; rw [hb]; rfl
            rw [hv, if_pos rfl]
            clear hv hb k1 k2 k3
            go_enter Tryz.func49, Tryz.ntmps49
            go_wp2_with fail
            refine Calls.mono HC.out ?_
            rintro e w1 ⟨rfl, hc, HB⟩
            clear HC
            have hz := lt_of_block hc
            have c1 := cell_of_row w1 w.heap.size 1 _ _ _ hc
            have c2 := cell_of_row w1 w.heap.size 2 _ _ _ hc
            clear hc
            go_wp2
            all_goals (go_ret2; exact ⟨rfl, HB.out⟩)
          · have hv : waOk (cl, kd, p) = false := by
              unfold waOk
              rw [hb, Bool.true_and]
              by_cases h1 : 1 ≤ kd
              · have h4 : ¬ kd ≤ 4 := by omega
                simp [h4]
              · simp [h1]
            rw [hv, if_neg (by simp)]
            have d1 : (kd == 1) = false := by simpa using k1
            have d2 : (kd == 2) = false := by simpa using k2
            have d3 : (kd == 3) = false := by simpa using k3
            have d4 : (kd == 4) = false := by simpa using k4
            clear hv hb k1 k2 k3 k4
            go_enter Tryz.func49, Tryz.ntmps49
            go_wp2_with fail
            refine Calls.mono HC.out ?_
            rintro e w1 ⟨rfl, hc, HB⟩
            clear HC
            have hz := lt_of_block hc
            have c1 := cell_of_row w1 w.heap.size 1 _ _ _ hc
            have c2 := cell_of_row w1 w.heap.size 2 _ _ _ hc
            clear hc
            go_wp2
            all_goals (go_ret2; exact ⟨rfl, HB.out⟩)

end Go.Proofs.YtkcapiblicfboaaGreatDoor
