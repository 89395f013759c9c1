/- New, for every two lists. -/
import Derived.Test.YtlnoighjdmjdeaaQuC
namespace Go.Proofs.Ytlnoighjdmjdeaa
open Go.RowKit Go.Shelf
set_option maxRecDepth 8000

theorem isNone_zero {w : World} {s : Nat} (hc : Wh w s (fun _ => 0)) : Calls Try.prog 31 #[.pointer (some ⟨s, 0, none⟩)] w fun e w' => e = .returned (.bool true) ∧ w' = w := by
  have hq := eq7_yes w
  obtain ⟨c0, c1, c2, c3, c4, c5, c6⟩ := hc
  go_enter Try.func31, Try.ntmps31
  go_wp2
  all_goals (go_ret; exact ⟨rfl, rfl⟩)

/-- A list of numbers in memory. -/
def SeesQ (w : World) (v : Value) (ks : List Int) : Prop :=
  ∃ (ao : Option Addr) (cap : Nat), v = .slice ao ks.length cap ∧ ks.length ≤ cap ∧ cap ≤ maxLen ∧ (ks = [] ∨ ∃ b off, ao = some ⟨b, off, none⟩ ∧ ∀ (i : Nat) (h : i < ks.length), w.cell? ⟨b, off + i, none⟩ = some (.int .i64 ks[i]))
theorem SeesQ.below {w w' : World} {v : Value} {ks : List Int} (h : SeesQ w v ks) (hk : Below w.heap.size w w') : SeesQ w' v ks := by
  obtain ⟨ao, cap, h1, h2, h3, h4⟩ := h
  refine ⟨ao, cap, h1, h2, h3, h4.imp id ?_⟩
  rintro ⟨b, off, e, hc⟩
  refine ⟨b, off, e, fun i hi => ?_⟩
  have := hc i hi
  rw [← this]
  exact hk.cell (World.block_lt_of_cell? w _ this)

/-- The system that two lists say. -/
def syD (ws gs : List Int) : SyD := ⟨ws.length, fun i => ws.getD i 0, fun i => (gs.getD i 0).toNat⟩
/-- May these two lists be a system's? -/
structure NewOk (ws gs : List Int) : Prop where
  l1 : 1 ≤ ws.length
  l7 : ws.length ≤ 7
  le : gs.length = ws.length
  ok : ∀ i, i < ws.length → (0 ≤ ws.getD i 0 ∧ ws.getD i 0 ≤ 100) ∧ (0 ≤ gs.getD i 0 ∧ gs.getD i 0 ≤ 6)
  one : ∃ i, i < ws.length ∧ 0 < ws.getD i 0
theorem NewOk.good {ws gs : List Int} (h : NewOk ws gs) : (syD ws gs).Good := by
  have hw : ∀ i, 0 ≤ ws.getD i 0 ∧ ws.getD i 0 ≤ 100 := fun i => by
    by_cases e : i < ws.length
    · exact (h.ok i e).1
    · rw [List.getD_eq_getElem?_getD, List.getElem?_eq_none (by omega)]; simp
  have hg : ∀ i, (gs.getD i 0).toNat ≤ 6 := fun i => by
    by_cases e : i < ws.length
    · have := (h.ok i e).2; omega
    · rw [List.getD_eq_getElem?_getD, List.getElem?_eq_none (by have := h.le; omega)]; simp
  exact ⟨h.l1, h.l7, fun i => (hw i).1, fun i => (hw i).2, hg, h.one⟩

/-- The cells of a system under way. -/
def nwI (D : SyD) (k c : Nat) : Int := if c = 0 then D.n else if c < 8 then (if c - 1 < k then D.ws (c - 1) else 0) else if c < 15 then (if c - 8 < k then (D.gs (c - 8) : Int) else 0) else D.whole (c - 15) k
theorem SyD.whole_step (D : SyD) (g k : Nat) : D.whole g (k + 1) = D.whole g k + if D.gs k = g then D.ws k else 0 := rfl

/-- A system under way in memory. -/
structure Nw (w wr : World) (D : SyD) (k : Nat) : Prop where
  row : wr.rowIs w.heap.size 66 22 (fun c => .int .i64 (nwI D k c))
  be : Below w.heap.size w wr
theorem Nw.step {w wr : World} {D : SyD} {k : Nat} (h : Nw w wr D k) (hk : k < 7) (hg : D.gs k ≤ 6) : Nw w ((((wr.setCell ⟨w.heap.size, 1 + k, none⟩ (.int .i64 (D.ws k))).setCell ⟨w.heap.size, 8 + k, none⟩ (.int .i64 (D.gs k : Int))).drew).setCell ⟨w.heap.size, 15 + D.gs k, none⟩ (.int .i64 (D.whole (D.gs k) k + D.ws k))).drew D (k + 1) := by
  refine ⟨((((h.row.set (1 + k) _).set (8 + k) _).drew.set (15 + D.gs k) _).congr fun c hc => ?_).drew, ((((h.be.setCell (Nat.le_refl _) _).setCell (Nat.le_refl _) _).drew).setCell (Nat.le_refl _) _).drew⟩
  unfold nwI
  by_cases e0 : c = 0
  · subst e0; rw [if_neg (by omega), if_neg (by omega), if_neg (by omega)]; rfl
  · by_cases e1 : c < 8
    · rw [if_neg (by omega), if_neg (by omega)]
      by_cases e2 : c = 1 + k
      · subst e2; simp; omega
      · rw [if_neg e2, if_neg e0, if_pos e1, if_neg e0, if_pos e1]
        by_cases e3 : c - 1 < k
        · rw [if_pos e3, if_pos (by omega)]
        · rw [if_neg e3, if_neg (by omega)]
    · by_cases e2 : c < 15
      · rw [if_neg (by omega)]
        by_cases e3 : c = 8 + k
        · subst e3; rw [if_pos rfl, if_neg e0, if_neg e1, if_pos e2, Nat.add_sub_cancel_left, if_pos (by omega)]
        · rw [if_neg e3, if_neg (by omega), if_neg e0, if_neg e1, if_pos e2, if_neg e0, if_neg e1, if_pos e2]
          by_cases e4 : c - 8 < k
          · rw [if_pos e4, if_pos (by omega)]
          · rw [if_neg e4, if_neg (by omega)]
      · rw [if_neg e0, if_neg e1, if_neg e2, if_neg e0, if_neg e1, if_neg e2, D.whole_step]
        by_cases e3 : c = 15 + D.gs k
        · subst e3; rw [if_pos rfl, Nat.add_sub_cancel_left, if_pos rfl]
        · rw [if_neg e3, if_neg (by omega), if_neg (by omega), if_neg (by omega), Int.add_zero]
theorem Nw.start (w : World) (D : SyD) : Nw w (w.alloc (.cells #[.int .i64 D.n, .int .i64 0, .int .i64 0, .int .i64 0, .int .i64 0, .int .i64 0, .int .i64 0, .int .i64 0, .int .i64 0, .int .i64 0, .int .i64 0, .int .i64 0, .int .i64 0, .int .i64 0, .int .i64 0, .int .i64 0, .int .i64 0, .int .i64 0, .int .i64 0, .int .i64 0, .int .i64 0, .int .i64 0] 66)) D 0 := by
  refine ⟨World.rowIs_alloc w _ _ _ (fun i hi => ?_), (Below.refl _ w).alloc (Nat.le_refl _) _⟩
  have h7 : i < 22 := hi
  have h8 : i = 0 ∨ i = 1 ∨ i = 2 ∨ i = 3 ∨ i = 4 ∨ i = 5 ∨ i = 6 ∨ i = 7 ∨ i = 8 ∨ i = 9 ∨ i = 10 ∨ i = 11 ∨ i = 12 ∨ i = 13 ∨ i = 14 ∨ i = 15 ∨ i = 16 ∨ i = 17 ∨ i = 18 ∨ i = 19 ∨ i = 20 ∨ i = 21 := by omega
  rcases h8 with rfl | rfl | rfl | rfl | rfl | rfl | rfl | rfl | rfl | rfl | rfl | rfl | rfl | rfl | rfl | rfl | rfl | rfl | rfl | rfl | rfl | rfl <;> rfl
theorem Nw.done {w wr : World} {ws gs : List Int} (h : Nw w wr (syD ws gs) ws.length) (hl : gs.length = ws.length) : IsSy wr w.heap.size (syD ws gs) := by
  refine h.row.congr fun c _ => ?_
  unfold nwI syI
  have z : ∀ (l : List Int) i, l.length ≤ i → l.getD i 0 = 0 := fun l i hi => by rw [List.getD_eq_getElem?_getD, List.getElem?_eq_none hi]; rfl
  by_cases e0 : c = 0
  · simp [e0]
  · by_cases e1 : c < 8
    · simp only [e0, e1, if_false, if_true]
      by_cases e3 : c - 1 < ws.length
      · rw [if_pos e3]
      · rw [if_neg e3]; show _ = Value.int .i64 (ws.getD _ 0); rw [z ws _ (by omega)]
    · by_cases e2 : c < 15
      · simp only [e0, e1, e2, if_false, if_true]
        by_cases e3 : c - 8 < ws.length
        · rw [if_pos e3]
        · rw [if_neg e3]; show _ = Value.int .i64 (((gs.getD _ 0).toNat : Nat) : Int); rw [z gs _ (by omega)]; rfl
      · simp only [e0, e1, e2, if_false]; rfl

theorem new_short {w : World} {v u : Value} {ws gs : List Int} (hv : SeesQ w v ws) (hu : SeesQ w u gs) (h : ¬ (1 ≤ ws.length ∧ ws.length ≤ 7 ∧ gs.length = ws.length)) : Calls Try.prog 9 #[v, u] w fun e w' => e = .returned (.tuple #[.pointer none, .int .i64 200]) ∧ w' = w := by
  obtain ⟨ao, cap, rfl, h1, h2, h5⟩ := hv
  obtain ⟨bo, cap', rfl, h3, h4, h6⟩ := hu
  clear h5 h6
  generalize ws.length = n at *
  generalize gs.length = m at *
  by_cases e1 : n < 1
  · have e1' : (n : Int) < 1 := by omega
    clear h
    go_enter Try.func9, Try.ntmps9
    go_wp2
    all_goals (go_ret2; exact ⟨rfl, rfl⟩)
  · by_cases e2 : 7 < n
    · have e1' : ¬ (n : Int) < 1 := by omega
      have e2' : 7 < (n : Int) := by omega
      clear h
      go_enter Try.func9, Try.ntmps9
      go_wp2
      all_goals (go_ret2; exact ⟨rfl, rfl⟩)
    · have e1' : ¬ (n : Int) < 1 := by omega
      have e2' : ¬ 7 < (n : Int) := by omega
      have e3 : ¬ m = n := fun q => h ⟨by omega, by omega, q⟩
      have e3' : ((m : Int) != (n : Int)) = true := by rw [bne_iff_ne]; omega
      clear h e3
      go_enter Try.func9, Try.ntmps9
      go_wp2
      all_goals (go_ret2; exact ⟨rfl, rfl⟩)

theorem SyD.whole_few {D : SyD} (g k : Nat) (h : ∀ i, i < k → 0 ≤ D.ws i ∧ D.ws i ≤ 100) : 0 ≤ D.whole g k ∧ D.whole g k ≤ k * 100 :=
  ⟨sumQ_nonneg fun i hi => by have := h i hi; split <;> omega, sumQ_most 100 fun i hi => by have := h i hi; split <;> omega⟩

theorem new_long {w : World} {v u : Value} {ws gs : List Int} (hv : SeesQ w v ws) (hu : SeesQ w u gs) (l1 : 1 ≤ ws.length) (l7 : ws.length ≤ 7) (le : gs.length = ws.length) : Calls Try.prog 9 #[v, u] w fun e w' =>
    (NewOk ws gs → e = .returned (.tuple #[.pointer (some ⟨w.heap.size, 0, none⟩), .int .i64 0]) ∧ IsSy w' w.heap.size (syD ws gs)) ∧ (¬ NewOk ws gs → e = .returned (.tuple #[.pointer none, .int .i64 200])) ∧ Below w.heap.size w w' := by
  obtain ⟨ao, cap, rfl, h1, h2, h3⟩ := hv
  obtain ⟨bo, cap', rfl, h4, h5, h6⟩ := hu
  obtain ⟨b, off, rfl, hb⟩ := h3.resolve_left (fun e => by rw [e] at l1; simp at l1)
  obtain ⟨b', off', rfl, hb'⟩ := h6.resolve_left (fun e => by rw [e] at le; simp at le; omega)
  clear h3 h6
  have HB : Hid (∀ (i : Nat) (h : i < ws.length), w.cell? ⟨b, off + i, none⟩ = some (.int .i64 ws[i])) := hb
  have HB' : Hid (∀ (i : Nat) (h : i < gs.length), w.cell? ⟨b', off' + i, none⟩ = some (.int .i64 gs[i])) := hb'
  clear hb hb'
  have HS : Hid (Nw w _ (syD ws gs) 0) := Nw.start w (syD ws gs)
  have HDn : Hid ((syD ws gs).n = ws.length) := rfl
  have HLe : Hid (gs.length = ws.length) := le
  rw [le] at h4 ⊢
  clear le
  obtain ⟨n, hn⟩ : ∃ n, n = ws.length := ⟨_, rfl⟩
  have HN : Hid (n = ws.length) := hn
  rw [HDn.out] at HS
  rw [← hn] at h1 h4 l1 l7 HS ⊢
  clear hn
  have e1' : ¬ (n : Int) < 1 := by omega
  have e2' : ¬ 7 < (n : Int) := by omega
  have e3' : ((n : Int) != (n : Int)) = false := by simp
  go_enter Try.func9, Try.ntmps9
  go_wp2
  go_loopw [31] (fun vi wr => ∃ k : Nat, k ≤ n ∧ vi = .int .i64 (k : Int) ∧ Hid (∀ i, i < k → (0 ≤ ws.getD i 0 ∧ ws.getD i 0 ≤ 100) ∧ (0 ≤ gs.getD i 0 ∧ gs.getD i 0 ≤ 6)) ∧ Hid (Nw w wr (syD ws gs) k)) (fun vi _ => n - (intOf vi).toNat)
  case atStart => exact ⟨0, by omega, rfl, fun i hi => by omega, HS.out⟩
  case round =>
    obtain ⟨k, hk, rfl, HO, HW⟩ := hrel
    clear HS
    have HZ := HW.out.row.lt
    by_cases hkn : k < n
    · have hi0 : (0 : Int) ≤ (k : Int) := by omega
      have hi7 : (k : Int) < 7 := by omega
      have hin : (k : Int) < (n : Int) := by omega
      have hk7 : k < 7 := by omega
      have cW : wr.cell? ⟨b, off + k, none⟩ = some (.int .i64 (ws.getD k 0)) := by
        have h : k < ws.length := by rw [← HN.out]; exact hkn
        have q := HB.out k h
        rw [HW.out.be.cell (World.block_lt_of_cell? w _ q), q, List.getD_eq_getElem?_getD, List.getElem?_eq_getElem h]; rfl
      have cG : wr.cell? ⟨b', off' + k, none⟩ = some (.int .i64 (gs.getD k 0)) := by
        have h : k < gs.length := by rw [HLe.out, ← HN.out]; exact hkn
        have q := HB'.out k h
        rw [HW.out.be.cell (World.block_lt_of_cell? w _ q), q, List.getD_eq_getElem?_getD, List.getElem?_eq_getElem h]; rfl
      have HWd : Hid ((syD ws gs).ws k = ws.getD k 0 ∧ (syD ws gs).gs k = (gs.getD k 0).toNat) := ⟨rfl, rfl⟩
      have HNk : Hid (NewOk ws gs → (0 ≤ ws.getD k 0 ∧ ws.getD k 0 ≤ 100) ∧ (0 ≤ gs.getD k 0 ∧ gs.getD k 0 ≤ 6)) := fun h => h.ok k (by rw [← HN.out]; exact hkn)
      have HOk : Hid ((0 ≤ ws.getD k 0 ∧ ws.getD k 0 ≤ 100) ∧ (0 ≤ gs.getD k 0 ∧ gs.getD k 0 ≤ 6) → ∀ i, i < k + 1 → (0 ≤ ws.getD i 0 ∧ ws.getD i 0 ≤ 100) ∧ (0 ≤ gs.getD i 0 ∧ gs.getD i 0 ≤ 6)) := fun h i hi => by
        by_cases e : i = k
        · subst e; exact h
        · exact HO.out i (by omega)
      have bW := fun g => SyD.whole_few (D := syD ws gs) g k (fun i hi => (HO.out i hi).1)
      clear HO
      generalize ws.getD k 0 = W at *
      generalize gs.getD k 0 = G at *
      have U1 := fun w => upTo_any W 100 w
      have U2 := fun w => upTo_any G 6 w
      by_cases o1 : 0 ≤ W ∧ W ≤ 100
      · simp only [decide_eq_true o1] at U1
        by_cases o2 : 0 ≤ G ∧ G ≤ 6
        · simp only [decide_eq_true o2] at U2
          obtain ⟨g, rfl⟩ := Int.eq_ofNat_of_zero_le o2.1
          have hg6 : g ≤ 6 := by omega
          have eg : (syD ws gs).gs k = g := by rw [HWd.out.2, Int.toNat_natCast]
          have g0 : (0 : Int) ≤ (g : Int) := by omega
          have g7 : (g : Int) < 7 := by omega
          have HX := HW.out.step hk7 (by rw [eg]; exact hg6)
          rw [eg, HWd.out.1] at HX
          have HX' : Hid (Nw w _ (syD ws gs) (k + 1)) := HX
          clear HX
          have r1 := HW.out.row.cell (i := 1 + k) (by omega)
          have r2 := HW.out.row.cell (i := 8 + k) (by omega)
          have r3 := HW.out.row.cell (i := 15 + g) (by omega)
          have e3 : nwI (syD ws gs) k (15 + g) = (syD ws gs).whole g k := by
            unfold nwI; rw [if_neg (by omega), if_neg (by omega), if_neg (by omega), Nat.add_sub_cancel_left]
          have f1 := HW.out.row.frozen (1 + k)
          have f2 := HW.out.row.frozen (8 + k)
          have f3 := HW.out.row.frozen (15 + g)
          have hr2 := ((HW.out.row.set (1 + k) (.int .i64 W)).set (8 + k) (.int .i64 (g : Int))).drew
          have r4 := hr2.cell (i := 15 + g) (by omega)
          have f4 := hr2.frozen (15 + g)
          have z4 := hr2.lt
          rw [if_neg (by omega), if_neg (by omega), e3] at r4
          clear hr2 r3 f3
          have b1 := (bW g).1
          have b2 : (syD ws gs).whole g k ≤ 700 := by have := (bW g).2; omega
          generalize (syD ws gs).whole g k = V at *
          have HOk2 := HOk.out ⟨o1, o2⟩
          have HOk3 : Hid (∀ i, i < k + 1 → (0 ≤ ws.getD i 0 ∧ ws.getD i 0 ≤ 100) ∧ (0 ≤ gs.getD i 0 ∧ gs.getD i 0 ≤ 6)) := HOk2
          obtain ⟨o3, o4⟩ := o1
          clear HOk HOk2 bW HNk HWd eg e3 HW o2
          go_wp2_with fail
          go_at_call 30
          refine (U1 _).mono ?_
          rintro e w1 ⟨rfl, rfl⟩
          go_wp2_with fail
          go_at_call 30
          refine (U2 _).mono ?_
          rintro e w1 ⟨rfl, rfl⟩
          clear U1 U2
          go_wp2_with fail
          go_region
          go_wp2_with fail
          go_region
          go_wp2
          go_roundw
          case rel => exact ⟨k + 1, by omega, by simp, HOk3, HX'⟩
          case measure => simp [intOf]; omega
        · simp only [decide_eq_false o2] at U2
          have HX : Hid (¬ NewOk ws gs) := fun h => o2 (HNk.out h).2
          have HB2 : Hid (Below w.heap.size w wr) := HW.out.be
          clear HOk HNk HWd HW o2 bW
          go_wp2_with fail
          go_at_call 30
          refine (U1 _).mono ?_
          rintro e w1 ⟨rfl, rfl⟩
          go_wp2_with fail
          go_at_call 30
          refine (U2 _).mono ?_
          rintro e w1 ⟨rfl, rfl⟩
          clear U1 U2
          go_wp2
          all_goals (go_ret2; exact ⟨fun h => absurd h HX.out, fun _ => rfl, HB2.out⟩)
      · simp only [decide_eq_false o1] at U1
        have HX : Hid (¬ NewOk ws gs) := fun h => o1 (HNk.out h).1
        have HB2 : Hid (Below w.heap.size w wr) := HW.out.be
        clear HOk HNk HWd HW o1 bW U2
        go_wp2_with fail
        go_at_call 30
        refine (U1 _).mono ?_
        rintro e w1 ⟨rfl, rfl⟩
        clear U1
        go_wp2
        all_goals (go_ret2; exact ⟨fun h => absurd h HX.out, fun _ => rfl, HB2.out⟩)
    · obtain rfl : k = n := by omega
      have HB2 : Hid (Below w.heap.size w wr) := HW.out.be
      by_cases hone : ∃ i, i < ws.length ∧ 0 < ws.getD i 0
      · have ok : NewOk ws gs := ⟨by rw [← HN.out]; exact l1, by rw [← HN.out]; exact l7, HLe.out, fun i hi => HO.out i (by rw [HN.out]; exact hi), hone⟩
        have HI : Hid (IsSy wr w.heap.size (syD ws gs)) := Nw.done (by rw [← HN.out]; exact HW.out) HLe.out
        have HOK : Hid (NewOk ws gs) := ok
        have HC : Hid (Calls Try.prog 31 #[.pointer (some ⟨w.heap.size, 0, none⟩)] wr fun e w' => e = .returned (.bool false) ∧ w' = wr) := isNone_sy ok.good HI.out
        clear HW HO ok hone
        go_wp2_with fail
        refine Calls.mono HC.out ?_
        rintro e w1 ⟨rfl, hw1⟩
        rw [hw1]
        clear hw1 HC
        go_wp2
        all_goals (go_ret2; exact ⟨fun _ => ⟨rfl, HI.out⟩, fun h => absurd HOK.out h, HB2.out⟩)
      · have HX : Hid (¬ NewOk ws gs) := fun h => hone h.one
        have hc : Wh wr w.heap.size (fun _ => 0) := by
          have hz : ∀ g, (syD ws gs).whole g k = 0 := fun g => by
            refine (sumQ_congr (g := fun _ => 0) fun i hi => ?_).trans (sumQ_zero _)
            have h1 : (syD ws gs).ws i = ws.getD i 0 := rfl
            have h2 := (HO.out i hi).1
            have h3 : ¬ 0 < ws.getD i 0 := fun q => hone ⟨i, by rw [← HN.out]; exact hi, q⟩
            split <;> omega
          have hcell : ∀ j, j < 7 → wr.cell? ⟨w.heap.size, 15 + j, none⟩ = some (.int .i64 0) := fun j hj => by
            rw [HW.out.row.cell (i := 15 + j) (by omega)]
            unfold nwI
            rw [if_neg (by omega), if_neg (by omega), if_neg (by omega), Nat.add_sub_cancel_left, hz]
          exact ⟨hcell 0 (by omega), hcell 1 (by omega), hcell 2 (by omega), hcell 3 (by omega), hcell 4 (by omega), hcell 5 (by omega), hcell 6 (by omega)⟩
        have HC : Hid (Calls Try.prog 31 #[.pointer (some ⟨w.heap.size, 0, none⟩)] wr fun e w' => e = .returned (.bool true) ∧ w' = wr) := isNone_zero hc
        clear HW HO hc hone
        go_wp2_with fail
        refine Calls.mono HC.out ?_
        rintro e w1 ⟨rfl, hw1⟩
        rw [hw1]
        clear hw1 HC
        go_wp2
        all_goals (go_ret2; exact ⟨fun h => absurd h HX.out, fun _ => rfl, HB2.out⟩)

theorem new_good {w : World} {v u : Value} {ws gs : List Int} (hv : SeesQ w v ws) (hu : SeesQ w u gs) (h : NewOk ws gs) : Calls Try.prog 9 #[v, u] w fun e w' => e = .returned (.tuple #[.pointer (some ⟨w.heap.size, 0, none⟩), .int .i64 0]) ∧ IsSy w' w.heap.size (syD ws gs) ∧ Below w.heap.size w w' :=
  Calls.mono (new_long hv hu h.l1 h.l7 h.le) fun _ _ q => ⟨(q.1 h).1, (q.1 h).2, q.2.2⟩
theorem new_bad {w : World} {v u : Value} {ws gs : List Int} (hv : SeesQ w v ws) (hu : SeesQ w u gs) (h : ¬ NewOk ws gs) : Calls Try.prog 9 #[v, u] w fun e w' => e = .returned (.tuple #[.pointer none, .int .i64 200]) ∧ Below w.heap.size w w' := by
  by_cases q : 1 ≤ ws.length ∧ ws.length ≤ 7 ∧ gs.length = ws.length
  · exact Calls.mono (new_long hv hu q.1 q.2.1 q.2.2) fun _ _ r => ⟨r.2.1 h, r.2.2⟩
  · exact Calls.mono (new_short hv hu q) fun _ _ r => ⟨r.1, by rw [r.2]; exact Below.refl _ _⟩

end Go.Proofs.Ytlnoighjdmjdeaa
