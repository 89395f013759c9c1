/- What acl's putFor answers. -/
import Derived.Test.YtapnaknbidmnmaaDoorQcKJ
namespace Go.Proofs.YtapnaknbidmnmaaDoor
open Go.RowKit Go.Shelf
set_option maxRecDepth 8000

/-- One entry put for: itself, or the names. -/
def putNs (names : List IdT) (p : Int) (acc : List EnT) (j : Nat) : List EnT := (names.take j).foldl (fun a n => putL a (p, n.1, n.2)) acc
def putOn (names : List IdT) (acc : List EnT) (e : EnT) : List EnT := if isAu e then putNs names e.1 acc names.length else putL acc e
def putAt (names : List IdT) (l : List EnT) (i : Nat) : List EnT := (l.take i).foldl (putOn names) []

theorem putL_len (a : List EnT) (x : EnT) : (putL a x).length ≤ a.length + 1 := by
  unfold putL
  split <;> simp

theorem putNs_step {names : List IdT} {p : Int} {acc : List EnT} {j : Nat} {n : IdT} (h : names[j]? = some n) : putNs names p acc (j + 1) = putL (putNs names p acc j) (p, n.1, n.2) := by
  unfold putNs
  rw [List.take_add_one, h, List.foldl_append]
  rfl

theorem putAt_step {names : List IdT} {l : List EnT} {i : Nat} {e : EnT} (h : l[i]? = some e) : putAt names l (i + 1) = putOn names (putAt names l i) e := by
  unfold putAt
  rw [List.take_add_one, h, List.foldl_append]
  rfl

theorem putNs_len (names : List IdT) (p : Int) (acc : List EnT) : ∀ j, (putNs names p acc j).length ≤ acc.length + j
  | 0 => by simp [putNs]
  | j + 1 => by
    cases h : names[j]? with
    | some n =>
      rw [putNs_step h]
      have := putL_len (putNs names p acc j) (p, n.1, n.2)
      have := putNs_len names p acc j
      omega
    | none =>
      have e : putNs names p acc (j + 1) = putNs names p acc j := by unfold putNs; rw [List.take_add_one, h]; simp
      rw [e]
      have := putNs_len names p acc j
      omega

theorem putAt_len (names : List IdT) (hn : names.length ≤ 4) (l : List EnT) : ∀ i, (putAt names l i).length ≤ 4 * i
  | 0 => by simp [putAt]
  | i + 1 => by
    have ih := putAt_len names hn l i
    cases h : l[i]? with
    | some e =>
      rw [putAt_step h]
      unfold putOn
      split
      · have := putNs_len names e.1 (putAt names l i) names.length
        omega
      · have := putL_len (putAt names l i) e
        omega
    | none =>
      have e : putAt names l (i + 1) = putAt names l i := by unfold putAt; rw [List.take_add_one, h]; simp
      rw [e]; omega

theorem puts_hold {fb eb : Nat} {fv fv' : Value} {e : EnT} {w w' : World} (hP : Puts fb fv fv' w w') (hE : HoldE eb e w) (h1 : eb ≠ fb) (h2 : some eb ≠ fv.ownBlock) : HoldE eb e w' ∧ some eb ≠ fv'.ownBlock := by
  have hl := lt_of_block hE
  refine ⟨(hP.2.1 eb hl h1 h2).trans hE, ?_⟩
  rcases hP.2.2 with e | ⟨g, e, hg⟩
  · rw [e]; exact h2
  · rw [e]
    simp
    omega

theorem own_lt {w : World} {base z n : Nat} {T : TypeId} {fv : Value} {xs : List Value} (h : w.ownsRow base T z fv n xs) : some w.heap.size ≠ fv.ownBlock := by
  intro e
  obtain ⟨_, ⟨rfl, _⟩ | ⟨g, cap, cur, rfl, _, a3, _⟩⟩ := h
  · cases e
  · simp [Value.ownBlock] at e
    have := lt_of_block a3
    omega

set_option maxHeartbeats 4000000 in
theorem putFor_any (v u : Value) (l : List EnT) (names : List IdT) (w : World) (h : SE w v l) (g : SI w u names) (hl4 : l.length ≤ 4) (hn4 : names.length ≤ 4) : Calls Tryd.prog 16 #[v, u] w fun e w' => ∃ fv, e = .returned fv ∧ w'.ownsRow w.heap.size 28 3 fv (putAt names l l.length).length (enFlat (putAt names l l.length)) ∧ Below w.heap.size w w' := by
  obtain ⟨ao, cap, rfl, hcap, hc⟩ := h
  obtain ⟨bo, dap, rfl, hdap, hd0⟩ := g
  have HC0 : Hid (l ≠ [] → ∃ b off, ao = some ⟨b, off, none⟩ ∧ ∀ i x, l[i]? = some x → w.cell? ⟨b, off + i * 3, none⟩ = some (.int .i8 x.1) ∧ w.cell? ⟨b, off + i * 3 + 1, none⟩ = some (.string x.2.1) ∧ w.cell? ⟨b, off + i * 3 + 2, none⟩ = some (.string x.2.2)) := hc
  have HD0 : Hid (names ≠ [] → ∃ b off, bo = some ⟨b, off, none⟩ ∧ ∀ i x, names[i]? = some x → w.cell? ⟨b, off + i * 2, none⟩ = some (.string x.1) ∧ w.cell? ⟨b, off + i * 2 + 1, none⟩ = some (.string x.2)) := hd0
  have hmf : ∀ (fn : Fn) (first cap : Array Value) (w : World), (Instr.makeFunc fn first cap).run Tryd.prog w = .ok (.func fn first cap) w := fun _ _ _ _ => rfl
  have HS : Hid (PFx w w.heap.size (.slice none 0 0) (putAt names l 0) (w.alloc (.cells #[.slice none 0 0] 22))) := ⟨heap_alloc_new _ _, World.ownsRow_nil _ _ _ _, (Below.refl _ _).alloc (Nat.le_refl _) _, Nat.le_refl _⟩
  clear hc hd0
  go_enter Tryd.func16, Tryd.ntmps16
  go_wp2
  go_loopw [14] (fun vi wr => ∃ (i : Nat) (fv : Value), i ≤ l.length ∧ vi = .int .i64 (i : Int) ∧ Hid (PFx w w.heap.size fv (putAt names l i) wr)) (fun vi _ => l.length - (intOf vi).toNat)
  case atStart => exact ⟨0, _, by omega, rfl, HS.out⟩
  case round =>
    obtain ⟨i, fv, hi, rfl, HP⟩ := hrel
    clear HS
    by_cases hlt : i < l.length
    · have hd : decide ((i : Int) < (l.length : Int)) = true := by simp; omega
      obtain ⟨b, off, hao, hcx⟩ := HC0.out (fun e => by rw [e] at hlt; simp at hlt)
      obtain ⟨x, hx⟩ : ∃ x, l[i]? = some x := ⟨_, List.getElem?_eq_getElem hlt⟩
      obtain ⟨k0, k1, k2⟩ := hcx i x hx
      have l0 := cell_below HP.out.2.2.1 k0
      have l1 := cell_below HP.out.2.2.1 k1
      have l2 := cell_below HP.out.2.2.1 k2
      have B1 : Below wr.heap.size wr (wr.alloc (.cells (enCs x) 28)) := (Below.refl _ _).alloc (Nat.le_refl _) _
      have hE1 : HoldE wr.heap.size x (wr.alloc (.cells (enCs x) 28)) := heap_alloc_new _ _
      have hfb := lt_of_block HP.out.1
      have hown := own_lt HP.out.2.1
      have HAu : Hid (Calls Tryd.prog 26 #[.agg (enCs x)] (wr.alloc (.cells (enCs x) 28)) fun e w' => e = .returned (.bool (isAu x)) ∧ Hid (PFx w w.heap.size fv (putAt names l i) w' ∧ HoldE wr.heap.size x w')) :=
        (isAuth_any x _).mono (fun e w' hh => ⟨hh.1, (HP.out.below B1).below hh.2, (hh.2.block _ (lt_of_block hE1)).trans hE1⟩)
      have HST : Hid (putAt names l (i + 1) = putOn names (putAt names l i) x) := putAt_step hx
      have HLN : Hid ((putAt names l i).length ≤ 1000) := by have := putAt_len names hn4 l i; show _ ≤ _; omega
      have HNE : Hid (wr.heap.size ≠ w.heap.size ∧ some wr.heap.size ≠ fv.ownBlock) := ⟨by omega, hown⟩
      have HX : Hid (∀ V : World, HoldE wr.heap.size x V → V.cell? ⟨wr.heap.size, 0, none⟩ = some (.int .i8 x.1) ∧ V.cell? ⟨wr.heap.size, 1, none⟩ = some (.string x.2.1) ∧ V.cell? ⟨wr.heap.size, 2, none⟩ = some (.string x.2.2)) := fun V hV => ⟨cell_of_row V wr.heap.size 0 _ _ _ hV, cell_of_row V wr.heap.size 1 _ _ _ hV, cell_of_row V wr.heap.size 2 _ _ _ hV⟩
      subst hao
      clear hcx hx k0 k1 k2 B1 hE1 hfb hown HP
      go_wp2_with fail
      go_at_call 26
      refine (HAu.out).mono ?_
      rintro e w1 ⟨rfl, H1⟩
      obtain ⟨m0, m1, m2⟩ := HX.out w1 H1.out.2
      cases hau : isAu x
      · have HPu : Hid (Calls Tryd.prog 27 #[.int .i8 x.1, .agg #[.string x.2.1, .string x.2.2], .pointer (some ⟨w.heap.size, 0, none⟩)] w1 fun e w' => e = .returned (.tuple #[]) ∧ ∃ fv', Hid (PFx w w.heap.size fv' (putAt names l (i + 1)) w')) := by
          rw [HST.out]
          unfold putOn
          rw [hau]
          exact (putFor1_any x.1 (x.2.1, x.2.2) w1 H1.out.1 HLN.out).mono (fun e w' hh => ⟨hh.1, hh.2.choose, hh.2.choose_spec.1⟩)
        clear hau HAu
        go_wp2_with fail
        go_at_call 27
        refine (HPu.out).mono ?_
        rintro e w2 ⟨rfl, fv', H2⟩
        go_wp2
        go_roundw
        case rel => exact ⟨i + 1, fv', by omega, by simp, H2⟩
        case measure => simp [intOf]; omega
      · clear HAu
        obtain ⟨wo, hwo⟩ : ∃ wo, wo = wr := ⟨_, rfl⟩
        subst hwo
        have HS1 : Hid (PFx w w.heap.size fv (putNs names x.1 (putAt names l i) 0) w1 ∧ HoldE wo.heap.size x w1 ∧ some wo.heap.size ≠ fv.ownBlock) := ⟨H1.out.1, H1.out.2, HNE.out.2⟩
        have HST2 : Hid (putAt names l (i + 1) = putNs names x.1 (putAt names l i) names.length) := by
          show _ = _
          rw [HST.out]
          unfold putOn
          rw [hau]
          rfl
        have HLN2 : Hid (∀ j, j ≤ 4 → (putNs names x.1 (putAt names l i) j).length ≤ 1000) := fun j hj => by
          have := putNs_len names x.1 (putAt names l i) j
          have := putAt_len names hn4 l i
          omega
        have HNE1 : Hid (wo.heap.size ≠ w.heap.size) := HNE.out.1
        clear H1 HNE HST hau l0 l1 l2
        go_wp2
        go_loopw [29] (fun vj wr => ∃ (j : Nat) (fz : Value), j ≤ names.length ∧ vj = .int .i64 (j : Int) ∧ Hid (PFx w w.heap.size fz (putNs names x.1 (putAt names l i) j) wr ∧ HoldE wo.heap.size x wr ∧ some wo.heap.size ≠ fz.ownBlock)) (fun vj _ => names.length - (intOf vj).toNat)
        case atStart => exact ⟨0, fv, by omega, rfl, HS1.out⟩
        case round =>
          obtain ⟨j, fz, hj, rfl, HP⟩ := hrel
          clear HS1 m0 m1 m2
          by_cases hjt : j < names.length
          · have hdj : decide ((j : Int) < (names.length : Int)) = true := by simp; omega
            obtain ⟨b2, off2, hbo, hcx⟩ := HD0.out (fun e => by rw [e] at hjt; simp at hjt)
            obtain ⟨y, hy⟩ : ∃ y, names[j]? = some y := ⟨_, List.getElem?_eq_getElem hjt⟩
            obtain ⟨k0, k1⟩ := hcx j y hy
            have y0 := cell_below HP.out.1.2.2.1 k0
            have y1 := cell_below HP.out.1.2.2.1 k1
            have B1 : Below wr.heap.size wr (wr.alloc (.cells (idCs y) 26)) := (Below.refl _ _).alloc (Nat.le_refl _) _
            have hEz := lt_of_block HP.out.2.1
            have hE1 : HoldE wo.heap.size x (wr.alloc (.cells (idCs y) 26)) := (B1.block _ hEz).trans HP.out.2.1
            obtain ⟨m0, m1, m2⟩ := HX.out _ hE1
            have HPu : Hid (Calls Tryd.prog 27 #[.int .i8 x.1, .agg #[.string y.1, .string y.2], .pointer (some ⟨w.heap.size, 0, none⟩)] (wr.alloc (.cells (idCs y) 26)) fun e w' => e = .returned (.tuple #[]) ∧ ∃ fv', Hid (PFx w w.heap.size fv' (putNs names x.1 (putAt names l i) (j + 1)) w' ∧ HoldE wo.heap.size x w' ∧ some wo.heap.size ≠ fv'.ownBlock)) := by
              rw [putNs_step hy]
              refine (putFor1_any x.1 y _ (HP.out.1.below B1) (HLN2.out j (by omega))).mono (fun e w' hh => ⟨hh.1, ?_⟩)
              obtain ⟨fv', q1, q2⟩ := hh.2
              exact ⟨fv', q1, puts_hold q2 hE1 HNE1.out HP.out.2.2⟩
            subst hbo
            clear hcx hy k0 k1 B1 hE1 HP
            go_wp2_with fail
            go_at_call 27
            refine (HPu.out).mono ?_
            rintro e w2 ⟨rfl, fv', H2⟩
            go_wp2
            go_roundw
            case rel => exact ⟨j + 1, fv', by omega, by simp, H2⟩
            case measure => simp [intOf]; omega
          · have hdj : decide ((j : Int) < (names.length : Int)) = false := by simp; omega
            have HE : Hid (PFx w w.heap.size fz (putAt names l (i + 1)) wr) := by
              have e : j = names.length := by omega
              show PFx _ _ _ _ _
              rw [HST2.out, ← e]; exact HP.out.1
            clear HP
            go_wp2
            go_roundw
            case rel => exact ⟨i + 1, fz, by omega, by simp, HE⟩
            case measure => simp [intOf]; omega
    · have hd : decide ((i : Int) < (l.length : Int)) = false := by simp; omega
      have HE : Hid (PFx w w.heap.size fv (putAt names l l.length) wr) := by
        have e : i = l.length := by omega
        rw [← e]; exact HP.out
      have c0 : wr.cell? ⟨w.heap.size, 0, none⟩ = some fv := cell_of_row wr w.heap.size 0 _ _ _ HP.out.1
      clear HP
      go_wp2
      all_goals (go_ret; exact ⟨fv, rfl, HE.out.2.1, HE.out.2.2.1⟩)

end Go.Proofs.YtapnaknbidmnmaaDoor
