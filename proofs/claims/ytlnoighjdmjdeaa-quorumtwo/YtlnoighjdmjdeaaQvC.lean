/- The document's New; CopyInts of lagoonref00. -/
import Derived.Test.YtlnoighjdmjdeaaQvB
import Derived.Laws.OwnMore
import Derived.Maps.AppendAt
namespace Go.Proofs.Ytlnoighjdmjdeaa
open Go.RowKit Go.Shelf
set_option maxRecDepth 8000

/-- A list of numbers of one's own. -/
def OwnsQ (w : World) (B : Nat) (v : Value) (xs : List Int) : Prop := w.ownsRow B 3 1 v xs.length (xs.map (Value.int .i64))
theorem OwnsQ.sees {w : World} {B : Nat} {v : Value} {xs : List Int} (h : OwnsQ w B v xs) : SeesQ w v xs := by
  have h0 := h
  obtain ⟨_, ⟨rfl, hn⟩ | ⟨g, cap, cur, rfl, _, hg, hc, hm, _, _⟩⟩ := h
  · have : xs = [] := List.eq_nil_of_length_eq_zero hn
    subst this
    exact ⟨none, 0, rfl, Nat.le_refl _, by unfold maxLen; omega, .inl rfl⟩
  · refine ⟨some ⟨g, 0, none⟩, cap, rfl, hc, hm, ?_⟩
    by_cases e : xs = []
    · exact .inl e
    · refine .inr ⟨g, 0, rfl, fun i hi => ?_⟩
      have := World.ownsRow.cellAt h0 i (by omega)
      rw [Nat.zero_add, this]
      simp [hi]
theorem OwnsQ.kept {w w' : World} {B : Nat} {v : Value} {xs : List Int} {S : Nat → Prop} (h : OwnsQ w B v xs) (hk : Kept w w' S) (hS : ∀ k, B ≤ k → ¬ S k) : OwnsQ w' B v xs := by
  obtain ⟨h1, h2 | ⟨g, cap, cur, e, hb, hg, r⟩⟩ := h
  · exact ⟨h1, .inl h2⟩
  · exact ⟨h1, .inr ⟨g, cap, cur, e, hb, hk.heap hg (hS g hb), r⟩⟩
theorem OwnsQ.below {w w' : World} {B : Nat} {v : Value} {xs : List Int} (h : OwnsQ w B v xs) (hb : Below w.heap.size w w') : OwnsQ w' B v xs := by
  obtain ⟨h1, h2 | ⟨g, cap, cur, e, hB, hg, r⟩⟩ := h
  · exact ⟨h1, .inl h2⟩
  · exact ⟨h1, .inr ⟨g, cap, cur, e, hB, keepH hb hg, r⟩⟩
theorem OwnsQ.mono {w : World} {B C : Nat} {v : Value} {xs : List Int} (h : OwnsQ w B v xs) (hC : C ≤ B) : OwnsQ w C v xs := by
  obtain ⟨h1, h2 | ⟨g, cap, cur, e, hB, r⟩⟩ := h
  · exact ⟨h1, .inl h2⟩
  · exact ⟨h1, .inr ⟨g, cap, cur, e, by omega, r⟩⟩
/-- The document's system in blocks from B on. -/
def IsDo (w : World) (r B : Nat) (ws gs : List Int) : Prop := ∃ v u, w.heap[r]? = some (.cells #[v, u] 71 (0, 0)) ∧ OwnsQ w B v ws ∧ OwnsQ w B u gs ∧ B ≤ r
theorem IsDo.ds {w : World} {r B : Nat} {ws gs : List Int} (h : IsDo w r B ws gs) : IsDs w r ws gs := by
  obtain ⟨v, u, h1, h2, h3, _⟩ := h
  exact ⟨v, u, h1, h2.sees, h3.sees⟩
theorem IsDo.kept {w w' : World} {r B : Nat} {ws gs : List Int} {S : Nat → Prop} (h : IsDo w r B ws gs) (hk : Kept w w' S) (hS : ∀ k, B ≤ k → ¬ S k) : IsDo w' r B ws gs := by
  obtain ⟨v, u, h1, h2, h3, h4⟩ := h
  exact ⟨v, u, hk.heap h1 (hS r h4), h2.kept hk hS, h3.kept hk hS, h4⟩
theorem IsDo.below {w w' : World} {r B : Nat} {ws gs : List Int} (h : IsDo w r B ws gs) (hb : Below w.heap.size w w') : IsDo w' r B ws gs := by
  obtain ⟨v, u, h1, h2, h3, h4⟩ := h
  exact ⟨v, u, keepH hb h1, h2.below hb, h3.below hb, h4⟩
theorem app_relQ {B : Nat} {w wr w1 : World} {v v' : Value} {xs : List Int} {x : Int} (hBw : B ≤ wr.heap.size) (hown : OwnsQ wr B v xs) (hbel : Below B w wr) {o : Obj}
    (hown' : w1.ownsRow B 3 1 v' (xs.length + 1) (xs.map (Value.int .i64) ++ [.int .i64 x])) (hgrow : (wr.alloc o).grownBy w1 v.ownBlock) :
    OwnsQ w1 B v' (xs ++ [x]) ∧ Below B w w1 ∧ B ≤ w1.heap.size := by
  refine ⟨by simpa [OwnsQ] using hown', ?_, ?_⟩
  · exact ((hbel.alloc hBw o).grown hgrow (by simp; omega) (fun k hk => (hown.lt k hk).1))
  · have := hgrow.size; simp at this; omega

set_option maxHeartbeats 400000 in
theorem copyInts_any (v : Value) (xs : List Int) (w : World) (h : SeesQ w v xs) (hreach : xs.length ≤ 1000000000) :
    Calls Try.prog 32 #[v] w fun e w' => ∃ v', e = .returned v' ∧ OwnsQ w' w.heap.size v' xs ∧ Below w.heap.size w w' := by
  obtain ⟨ao, cap, rfl, hlc, hcm, h3⟩ := h
  unfold maxLen at hcm
  obtain ⟨i0, hi, hz0, hz1, hz2⟩ := info_parts Try.infoI7
  go_enter Try.func32, Try.ntmps32
  go_wp2
  go_loopw [3, 4] (fun v i wr => ∃ k : Nat, k ≤ xs.length ∧ i = .int .i64 k ∧ OwnsQ wr w.heap.size v (xs.take k) ∧ Below w.heap.size w wr) (fun _ i _ => xs.length - (intOf i).toNat)
  case atStart => exact ⟨0, Nat.zero_le _, rfl, World.ownsRow_nil _ _ _ _, Below.refl _ _⟩
  case round =>
    obtain ⟨k, hk, rfl, hown, hbel⟩ := hrel
    by_cases hlt : k < xs.length
    · rcases h3 with h3 | ⟨b, off, rfl, h3⟩
      · subst h3; simp at hlt
      · have hc := (hbel.cell (World.block_lt_of_cell? w _ (h3 k hlt))).trans (h3 k hlt)
        have hgd : xs[k] = xs.getD k 0 := by rw [List.getD_eq_getElem?_getD, List.getElem?_eq_getElem hlt]; rfl
        rw [hgd] at hc
        have HN : Hid _ := take_next xs k hlt
        have hlen : (xs.take k).length = k := by simp; omega
        have HL : Hid _ := hlen
        clear hlen h3 hgd
        generalize xs.getD k 0 = x at *
        generalize xs.take k = ys at *
        have hsz := hbel.size
        go_wp2_with (at_builtin; refine wpList_append_own _ rfl _ _ 22 rfl w.heap.size 3 i0 (.int .i64 0) 1 8 Try.underlying22 hi hz0 hz1 hz2 rfl (by decide) _ _ _ rfl (hown.alloc _) ⟨wr.heap.size, 0, none⟩ 1 1 [.int .i64 x] rfl rfl ?c1 ?c2 ?c3 ?c4 ?c5 ?_)
        case c1 =>
          intro j u hj
          match j, hj with
          | 0, hj => simp at hj; subst hj; simp [Addr.add]
        case c2 => intro u hu; simp at hu; subst hu; rfl
        case c3 => have := HL.out; unfold maxLen; omega
        case c4 => have := HL.out; omega
        case c5 => simp; omega
        intro v' w1 hown' hgrow _
        have R := app_relQ hsz hown hbel hown' hgrow
        clear hown' hgrow hown hc
        go_wp2
        go_roundw
        case rel => exact ⟨k + 1, by omega, by go_num, by rw [HN.out]; exact R.1, R.2.1⟩
        case measure => simp [intOf]; omega
    · obtain rfl : k = xs.length := by omega
      rw [List.take_length] at hown
      go_wp2
      go_ret
      exact ⟨_, rfl, hown, hbel⟩

theorem refNew_short {w : World} {v u : Value} {ws gs : List Int} (hv : SeesQ w v ws) (hu : SeesQ w u gs) (h : ¬ (1 ≤ ws.length ∧ ws.length ≤ 7 ∧ gs.length = ws.length)) : Calls Try.prog 10 #[v, u] w fun e w' => e = .returned (.tuple #[.pointer none, .int .i64 200]) ∧ w' = w := by
  obtain ⟨ao, cap, rfl, h1, h2, h5⟩ := hv
  obtain ⟨bo, cap', rfl, h3, h4, h6⟩ := hu
  clear h5 h6
  generalize ws.length = n at *
  generalize gs.length = m at *
  by_cases e1 : n < 1
  · have e1' : (n : Int) < 1 := by omega
    clear h
    go_enter Try.func10, Try.ntmps10
    go_wp2
    all_goals (go_ret2; exact ⟨rfl, rfl⟩)
  · by_cases e2 : 7 < n
    · have e1' : ¬ (n : Int) < 1 := by omega
      have e2' : 7 < (n : Int) := by omega
      clear h
      go_enter Try.func10, Try.ntmps10
      go_wp2
      all_goals (go_ret2; exact ⟨rfl, rfl⟩)
    · have e1' : ¬ (n : Int) < 1 := by omega
      have e2' : ¬ 7 < (n : Int) := by omega
      have e3 : ¬ m = n := fun q => h ⟨by omega, by omega, q⟩
      have e3' : ((m : Int) != (n : Int)) = true := by rw [bne_iff_ne]; omega
      clear h e3
      go_enter Try.func10, Try.ntmps10
      go_wp2
      all_goals (go_ret2; exact ⟨rfl, rfl⟩)

/-- Does one of the first k weigh something? -/
def soB (ws : List Int) : Nat → Bool
  | 0 => false
  | k + 1 => soB ws k || decide (0 < ws.getD k 0)
theorem soB_iff (ws : List Int) (k : Nat) : soB ws k = true ↔ ∃ i, i < k ∧ 0 < ws.getD i 0 := by
  induction k with
  | zero => simp [soB]
  | succ k ih =>
    unfold soB
    rw [Bool.or_eq_true, ih, decide_eq_true_iff]
    constructor
    · rintro (⟨i, h1, h2⟩ | h)
      · exact ⟨i, by omega, h2⟩
      · exact ⟨k, by omega, h⟩
    · rintro ⟨i, h1, h2⟩
      by_cases e : i = k
      · subst e; exact .inr h2
      · exact .inl ⟨i, by omega, h2⟩

theorem refNew_long {w : World} {v u : Value} {ws gs : List Int} (hv : SeesQ w v ws) (hu : SeesQ w u gs) (l1 : 1 ≤ ws.length) (l7 : ws.length ≤ 7) (le : gs.length = ws.length) : Calls Try.prog 10 #[v, u] w fun e w' =>
    (NewOk ws gs → ∃ r, e = .returned (.tuple #[.pointer (some ⟨r, 0, none⟩), .int .i64 0]) ∧ w.heap.size ≤ r ∧ IsDo w' r w.heap.size ws gs) ∧ (¬ NewOk ws gs → e = .returned (.tuple #[.pointer none, .int .i64 200])) ∧ Below w.heap.size w w' := by
  have HV : Hid (SeesQ w v ws ∧ SeesQ w u gs) := ⟨hv, hu⟩
  obtain ⟨ao, cap, rfl, h1, h2, h3⟩ := hv
  obtain ⟨bo, cap', rfl, h4, h5, h6⟩ := hu
  obtain ⟨b, off, rfl, hb⟩ := h3.resolve_left (fun e => by rw [e] at l1; simp at l1)
  obtain ⟨b', off', rfl, hb'⟩ := h6.resolve_left (fun e => by rw [e] at le; simp at le; omega)
  clear h3 h6 h2 h5
  have HB : Hid (∀ (i : Nat) (h : i < ws.length), w.cell? ⟨b, off + i, none⟩ = some (.int .i64 ws[i])) := hb
  have HB' : Hid (∀ (i : Nat) (h : i < gs.length), w.cell? ⟨b', off' + i, none⟩ = some (.int .i64 gs[i])) := hb'
  clear hb hb'
  have HLe : Hid (gs.length = ws.length) := le
  rw [le] at h4 HV ⊢
  clear le
  obtain ⟨n, hn⟩ : ∃ n, n = ws.length := ⟨_, rfl⟩
  have HN : Hid (n = ws.length) := hn
  rw [← hn] at h1 h4 l1 l7 HV ⊢
  clear hn
  have e1' : ¬ (n : Int) < 1 := by omega
  have e2' : ¬ 7 < (n : Int) := by omega
  have e3' : ((n : Int) != (n : Int)) = false := by simp
  go_enter Try.func10, Try.ntmps10
  go_wp2
  go_loopw [7, 8] (fun v7 vi wr => ∃ k : Nat, k ≤ n ∧ v7 = .bool (soB ws k) ∧ vi = .int .i64 (k : Int) ∧ Hid (∀ i, i < k → (0 ≤ ws.getD i 0 ∧ ws.getD i 0 ≤ 100) ∧ (0 ≤ gs.getD i 0 ∧ gs.getD i 0 ≤ 6)) ∧ Hid (wr = w)) (fun _ vi _ => n - (intOf vi).toNat)
  case atStart => exact ⟨0, by omega, rfl, rfl, fun i hi => by omega, rfl⟩
  case round =>
    obtain ⟨k, hk, rfl, rfl, HO, HE⟩ := hrel
    rw [HE.out]
    clear HE
    by_cases hkn : k < n
    · have hi0 : (0 : Int) ≤ (k : Int) := by omega
      have hin : (k : Int) < (n : Int) := by omega
      have cW : w.cell? ⟨b, off + k, none⟩ = some (.int .i64 (ws.getD k 0)) := by
        have h : k < ws.length := by rw [← HN.out]; exact hkn
        rw [HB.out k h, List.getD_eq_getElem?_getD, List.getElem?_eq_getElem h]; rfl
      have cG : w.cell? ⟨b', off' + k, none⟩ = some (.int .i64 (gs.getD k 0)) := by
        have h : k < gs.length := by rw [HLe.out, ← HN.out]; exact hkn
        rw [HB'.out k h, List.getD_eq_getElem?_getD, List.getElem?_eq_getElem h]; rfl
      have HNk : Hid (NewOk ws gs → (0 ≤ ws.getD k 0 ∧ ws.getD k 0 ≤ 100) ∧ (0 ≤ gs.getD k 0 ∧ gs.getD k 0 ≤ 6)) := fun h => h.ok k (by rw [← HN.out]; exact hkn)
      have HOk : Hid ((0 ≤ ws.getD k 0 ∧ ws.getD k 0 ≤ 100) ∧ (0 ≤ gs.getD k 0 ∧ gs.getD k 0 ≤ 6) → ∀ i, i < k + 1 → (0 ≤ ws.getD i 0 ∧ ws.getD i 0 ≤ 100) ∧ (0 ≤ gs.getD i 0 ∧ gs.getD i 0 ≤ 6)) := fun h i hi => by
        by_cases e : i = k
        · subst e; exact h
        · exact HO.out i (by omega)
      have sS : Hid (soB ws (k + 1) = (soB ws k || decide (0 < ws.getD k 0))) := rfl
      clear HO
      generalize ws.getD k 0 = W at *
      generalize gs.getD k 0 = G at *
      generalize soB ws k = sb at *
      by_cases o1 : W < 0
      · have HX : Hid (¬ NewOk ws gs) := fun h => by have := (HNk.out h).1; omega
        clear HNk HOk sS
        go_wp2
        all_goals (go_ret2; exact ⟨fun h => absurd h HX.out, fun _ => rfl, Below.refl _ _⟩)
      · by_cases o2 : 100 < W
        · have HX : Hid (¬ NewOk ws gs) := fun h => by have := (HNk.out h).1; omega
          clear HNk HOk sS
          go_wp2
          all_goals (go_ret2; exact ⟨fun h => absurd h HX.out, fun _ => rfl, Below.refl _ _⟩)
        · by_cases o3 : G < 0
          · have HX : Hid (¬ NewOk ws gs) := fun h => by have := (HNk.out h).2; omega
            clear HNk HOk sS
            go_wp2
            all_goals (go_ret2; exact ⟨fun h => absurd h HX.out, fun _ => rfl, Below.refl _ _⟩)
          · by_cases o4 : 7 ≤ G
            · have HX : Hid (¬ NewOk ws gs) := fun h => by have := (HNk.out h).2; omega
              clear HNk HOk sS
              go_wp2
              all_goals (go_ret2; exact ⟨fun h => absurd h HX.out, fun _ => rfl, Below.refl _ _⟩)
            · have HO2 : Hid (∀ i, i < k + 1 → (0 ≤ ws.getD i 0 ∧ ws.getD i 0 ≤ 100) ∧ (0 ≤ gs.getD i 0 ∧ gs.getD i 0 ≤ 6)) := HOk.out ⟨⟨by omega, by omega⟩, by omega, by omega⟩
              clear HNk HOk
              cases sb with
              | true =>
                have HX : Hid (soB ws (k + 1) = true) := by show _ = _; rw [sS.out]; rfl
                clear sS
                go_wp2
                go_roundw
                case rel => exact ⟨k + 1, by omega, by rw [HX.out], by simp, HO2, trivial⟩
                case measure => simp [intOf]; omega
              | false =>
                by_cases o5 : 0 < W
                · have HX : Hid (soB ws (k + 1) = true) := by show _ = _; rw [sS.out, decide_eq_true o5]; rfl
                  clear sS
                  go_wp2
                  go_roundw
                  case rel => exact ⟨k + 1, by omega, by rw [HX.out], by simp, HO2, trivial⟩
                  case measure => simp [intOf]; omega
                · have HX : Hid (soB ws (k + 1) = false) := by show _ = _; rw [sS.out, decide_eq_false o5]; rfl
                  obtain rfl : W = 0 := by omega
                  clear sS o1 o2 o5
                  go_wp2
                  go_roundw
                  case rel => exact ⟨k + 1, by omega, by rw [HX.out], by simp, HO2, trivial⟩
                  case measure => simp [intOf]; omega
    · obtain rfl : k = n := by omega
      have HOn : Hid (soB ws k = true ↔ ∃ i, i < k ∧ 0 < ws.getD i 0) := soB_iff ws k
      cases hsb : soB ws k with
      | false =>
        have HX : Hid (¬ NewOk ws gs) := fun h => by
          have := HOn.out.2 (by rw [HN.out]; exact h.one)
          rw [hsb] at this
          cases this
        clear hsb HOn HO
        go_wp2
        all_goals (go_ret2; exact ⟨fun h => absurd h HX.out, fun _ => rfl, Below.refl _ _⟩)
      | true =>
        have ok : NewOk ws gs := ⟨by rw [← HN.out]; exact l1, by rw [← HN.out]; exact l7, HLe.out, fun i hi => HO.out i (by rw [HN.out]; exact hi), by rw [← HN.out]; exact HOn.out.1 hsb⟩
        have HOK : Hid (NewOk ws gs) := ok
        have HC1 : Hid (Calls Try.prog 32 #[.slice (some ⟨b, off, none⟩) k cap] w fun e w' => ∃ v', e = .returned v' ∧ OwnsQ w' w.heap.size v' ws ∧ Below w.heap.size w w') := copyInts_any _ ws w HV.out.1 (by rw [← HN.out]; omega)
        clear hsb HOn HO ok
        go_wp2_with fail
        refine Calls.mono HC1.out ?_
        rintro e w1 ⟨v1, rfl, hO1, hb1⟩
        have HC2 : Hid (Calls Try.prog 32 #[.slice (some ⟨b', off', none⟩) k cap'] w1 fun e w' => ∃ v', e = .returned v' ∧ OwnsQ w' w1.heap.size v' gs ∧ Below w1.heap.size w1 w') := copyInts_any _ gs w1 (HV.out.2.below hb1) (by rw [HLe.out, ← HN.out]; omega)
        have HS1 : Hid (OwnsQ w1 w.heap.size v1 ws ∧ Below w.heap.size w w1) := ⟨hO1, hb1⟩
        obtain ⟨o1, c1, ev1, q1, q2, q3⟩ := hO1.sees
        clear hO1 hb1 HC1 q3
        subst ev1
        go_wp2_with fail
        refine Calls.mono HC2.out ?_
        rintro e w2 ⟨v2, rfl, hO2, hb2⟩
        have HS2 : Hid (OwnsQ w2 w.heap.size (.slice o1 ws.length c1) ws ∧ OwnsQ w2 w.heap.size v2 gs ∧ Below w.heap.size w w2) := ⟨HS1.out.1.below hb2, hO2.mono HS1.out.2.size, HS1.out.2.trans (hb2.mono HS1.out.2.size)⟩
        obtain ⟨o2, c2, ev2, q4, q5, q6⟩ := hO2.sees
        clear hO2 hb2 HC2 HS1 q6
        subst ev2
        have HF : Hid (∀ t, IsDo (w2.alloc (.cells #[.slice o1 ws.length c1, .slice o2 gs.length c2] 71)) w2.heap.size w.heap.size ws gs ∧ Below w.heap.size w (w2.alloc t)) := fun t => ⟨⟨_, _, heap_alloc_new _ _, HS2.out.1.below (one_alloc _ _), HS2.out.2.1.below (one_alloc _ _), HS2.out.2.2.size⟩, HS2.out.2.2.alloc HS2.out.2.2.size _⟩
        have HL2 : Hid (w.heap.size ≤ w2.heap.size) := HS2.out.2.2.size
        clear HS2
        go_wp2
        all_goals (go_ret2; exact ⟨fun _ => ⟨_, rfl, HL2.out, (HF.out (.cells #[] 3)).1⟩, fun h => absurd HOK.out h, (HF.out _).2⟩)

theorem refNew_good {w : World} {v u : Value} {ws gs : List Int} (hv : SeesQ w v ws) (hu : SeesQ w u gs) (h : NewOk ws gs) : Calls Try.prog 10 #[v, u] w fun e w' => ∃ r, e = .returned (.tuple #[.pointer (some ⟨r, 0, none⟩), .int .i64 0]) ∧ w.heap.size ≤ r ∧ IsDo w' r w.heap.size ws gs ∧ Below w.heap.size w w' :=
  Calls.mono (refNew_long hv hu h.l1 h.l7 h.le) fun _ _ q => by
    obtain ⟨r, h1, h2, h3⟩ := q.1 h
    exact ⟨r, h1, h2, h3, q.2.2⟩
theorem refNew_bad {w : World} {v u : Value} {ws gs : List Int} (hv : SeesQ w v ws) (hu : SeesQ w u gs) (h : ¬ NewOk ws gs) : Calls Try.prog 10 #[v, u] w fun e w' => e = .returned (.tuple #[.pointer none, .int .i64 200]) ∧ Below w.heap.size w w' := by
  by_cases q : 1 ≤ ws.length ∧ ws.length ≤ 7 ∧ gs.length = ws.length
  · exact Calls.mono (refNew_long hv hu q.1 q.2.1 q.2.2) fun _ _ r => ⟨r.2.1 h, r.2.2⟩
  · exact Calls.mono (refNew_short hv hu q) fun _ _ r => ⟨r.1, by rw [r.2]; exact Below.refl _ _⟩

end Go.Proofs.Ytlnoighjdmjdeaa
