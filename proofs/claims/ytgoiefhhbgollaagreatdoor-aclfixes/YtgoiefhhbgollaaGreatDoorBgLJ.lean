/- For AclFixes: the answers gathered so far, each in a block of its own; a copy of a long list; the wide list turned. -/
import Derived.Test.YtgoiefhhbgollaaGreatDoorBgHJ
import Derived.Test.YtgoiefhhbgollaaGreatDoorQdAJ
import Derived.Test.YtgoiefhhbgollaaGreatDoorQdBJ
import Derived.Test.YtgoiefhhbgollaaGreatDoorQdHJ
import Derived.Test.YtgoiefhhbgollaaGreatDoorQdKJ
import Derived.Test.YtgoiefhhbgollaaGreatDoorQcOJ
namespace Go.Proofs.YtgoiefhhbgollaaGreatDoor
open Go.RowKit Go.Shelf
set_option maxRecDepth 8000

/-- Lists of one's own, the newest first, each in a block ahead of the one behind. -/
def Ans (b : Nat) (V : World) : Nat → List (Value × List EnT) → Prop
  | hi, [] => b < hi
  | hi, (v, f) :: ans => ∃ lo, lo ≤ hi ∧ V.ownsRow lo 39 3 v f.length (enFlat f) ∧ (∀ g, v.ownBlock = some g → g < hi) ∧ Ans b V lo ans

theorem Ans.below {b : Nat} {V V' : World} {hi hi' : Nat} {ans : List (Value × List EnT)} (h : Ans b V hi ans) (hh : hi ≤ hi') (hB : Below V.heap.size V V') : Ans b V' hi' ans := by
  induction ans generalizing hi hi' with
  | nil => exact Nat.lt_of_lt_of_le h hh
  | cons a ans ih =>
    obtain ⟨v, f⟩ := a
    obtain ⟨lo, h1, h2, h3, h4⟩ := h
    exact ⟨lo, by omega, owns_below h2 hB, fun g e => Nat.lt_of_lt_of_le (h3 g e) hh, ih h4 (Nat.le_refl _)⟩

theorem Ans.base {b : Nat} {V : World} {hi : Nat} {ans : List (Value × List EnT)} (h : Ans b V hi ans) : b < hi := by
  induction ans generalizing hi with
  | nil => exact h
  | cons a ans ih =>
    obtain ⟨v, f⟩ := a
    obtain ⟨lo, h1, h2, h3, h4⟩ := h
    exact Nat.lt_of_lt_of_le (ih h4) h1

theorem Ans.mem {b : Nat} {V : World} {hi : Nat} {ans : List (Value × List EnT)} (h : Ans b V hi ans) {v : Value} {f : List EnT} (hm : (v, f) ∈ ans) : SE V v f := by
  induction ans generalizing hi with
  | nil => cases hm
  | cons a ans ih =>
    obtain ⟨v', f'⟩ := a
    obtain ⟨lo, h1, h2, h3, h4⟩ := h
    rcases List.mem_cons.1 hm with e | e
    · cases e
      exact SE_owns h2
    · exact ih h4 e

theorem Ans.kept {b : Nat} {V V' : World} {hi : Nat} {ans : List (Value × List EnT)} (h : Ans b V hi ans) {S : Nat → Prop} (hk : Kept V V' S) (hS : ∀ k, b < k → k < V.heap.size → S k → ∃ cs T fr, V.heap[k]? = some (.cells cs T fr) ∧ T ≠ 39) : Ans b V' hi ans := by
  induction ans generalizing hi with
  | nil => exact h
  | cons a ans ih =>
    obtain ⟨v, f⟩ := a
    obtain ⟨lo, h1, h2, h3, h4⟩ := h
    refine ⟨lo, h1, row_kept h2 hk (fun g e hs => ?_), h3, ih h4⟩
    obtain ⟨cs, T, fr, hr, hT⟩ := hS g (Nat.lt_of_lt_of_le h4.base (row_base h2 e)) (row_lt h2 e) hs
    exact row_not h2 hr hT e

/-- What Fix gives. -/
def fxV (l : List EnT) (who : List IdT) : List EnT := (fixA l who).getD []

theorem fxV_len (l : List EnT) (who : List IdT) : (fxV l who).length ≤ 4 := by
  unfold fxV
  cases h : fixA l who with
  | none => simp
  | some f => exact ((enLs_iff f).1 ((fxLs_iff f).1 (fixA_fixed h)).1).1

theorem Ans.push {b : Nat} {V V' : World} {ans : List (Value × List EnT)} {v : Value} {f : List EnT} (h : Ans b V V.heap.size ans) (hB : Below V.heap.size V V') (ho : V'.ownsRow V.heap.size 39 3 v f.length (enFlat f)) : Ans b V' V'.heap.size ((v, f) :: ans) :=
  ⟨V.heap.size, hB.size, ho, fun _ e => row_lt ho e, h.below (Nat.le_refl _) hB⟩

theorem fix_ans (v u : Value) (l : List EnT) (who : List IdT) (V : World) (ans : List (Value × List EnT)) (b : Nat) (ce : Int) (hce : ce = if (fixA l who).isSome = true then (0 : Int) else 60) (hA : Ans b V V.heap.size ans) (h : SE V v l) (g : SI V u who) (hsz : ∀ x ∈ l, x.2.2.size ≤ 4294967296) (gsz : ∀ x ∈ who, x.2.size ≤ 4294967296) :
    Calls Tryz.prog 9 #[v, u] V fun e w' => ∃ xa xn xc, e = .returned (.tuple #[.slice xa xn xc, .int .i64 ce]) ∧ Ans b w' w'.heap.size ((.slice xa xn xc, fxV l who) :: ans) ∧ Below V.heap.size V w' :=
  (fix_gen v u l who V h g hsz gsz).mono (fun e w' hh => by
    obtain ⟨⟨fv, rfl, ho, _⟩, hB⟩ := hh
    obtain ⟨xa, xn, xc, rfl⟩ := row_form ho
    exact ⟨xa, xn, xc, by rw [hce], hA.push hB ho, hB⟩)

theorem refFix_ans (v u : Value) (l : List EnT) (who : List IdT) (V : World) (ans : List (Value × List EnT)) (b : Nat) (ce : Int) (hce : ce = if (fixA l who).isSome = true then (0 : Int) else 60) (hA : Ans b V V.heap.size ans) (h : SE V v l) (g : SI V u who) (hsz : ∀ x ∈ l, x.2.2.size ≤ 4294967296) (gsz : ∀ x ∈ who, x.2.size ≤ 4294967296) :
    Calls Tryz.prog 8 #[v, u] V fun e w' => ∃ xa xn xc, e = .returned (.tuple #[.slice xa xn xc, .int .i64 ce]) ∧ Ans b w' w'.heap.size ((.slice xa xn xc, fxV l who) :: ans) ∧ Below V.heap.size V w' :=
  (refFix_any v u l who V h g hsz gsz).mono (fun e w' hh => by
    obtain ⟨⟨fv, rfl, ho⟩, hB⟩ := hh
    obtain ⟨xa, xn, xc, rfl⟩ := row_form ho
    exact ⟨xa, xn, xc, by rw [hce], hA.push hB ho, hB⟩)

theorem SE_none (V : World) : SE V (.slice none 0 0) [] := ⟨none, 0, rfl, Nat.le_refl _, fun h => absurd rfl h⟩

/-- Equal lists, nothing but the tape used up. -/
theorem eqAcl_fx (v u : Value) (f : List EnT) (w : World) (h : SE w v f) (g : SE w u f) (hl : f.length ≤ 2000000000) :
    Calls Tryz.prog 10 #[v, u] w fun e w' => e = .returned (.bool true) ∧ Below w.heap.size w w' :=
  (eqAcl_se v u f w h g hl).mono (fun e w' hh => by
    obtain ⟨rfl, k, rfl⟩ := hh
    exact ⟨rfl, below_drewN (Below.refl _ _) _⟩)

theorem eqIds_fx (v u : Value) (f : List IdT) (w : World) (h : SI w v f) (g : SI w u f) (hl : f.length ≤ 2000000000) :
    Calls Tryz.prog 12 #[v, u] w fun e w' => e = .returned (.bool true) ∧ Below w.heap.size w w' :=
  (eqIds_se v u f w h g hl).mono (fun e w' hh => by
    obtain ⟨rfl, k, rfl⟩ := hh
    exact ⟨rfl, below_drewN (Below.refl _ _) _⟩)

set_option maxHeartbeats 2000000 in
theorem copyAcl_long (u : Value) (l : List EnT) (w : World) (g : SE w u l) (glen : l.length ≤ 1100000000) : Calls Tryz.prog 14 #[u] w fun e w' => ∃ xa xn xc, e = .returned (.slice xa xn xc) ∧ SE w' (.slice xa xn xc) l ∧ Below w.heap.size w w' := by
  obtain ⟨i0, hi0, hz0, hz1, hz2⟩ := info3B Tryz.infoEnB
  obtain ⟨ao, cap, rfl, hcap, HC⟩ := SE_cells g
  clear g
  go_enter Tryz.func14, Tryz.ntmps14
  go_wp2
  go_loopw [3, 4] (fun vs vi wr => ∃ i : Nat, i ≤ l.length ∧ vi = .int .i64 (i : Int) ∧ Hid (wr.ownsRow w.heap.size 39 3 vs (l.take i).length (enFlat (l.take i))) ∧ Hid (Below w.heap.size w wr)) (fun _ vi _ => l.length - (intOf vi).toNat)
  case atStart => exact ⟨0, by omega, rfl, World.ownsRow_nil w _ _ _, Below.refl _ _⟩
  case round =>
    obtain ⟨i, hi, rfl, HO, HW⟩ := hrel
    by_cases hlt : i < l.length
    · have hd : decide ((i : Int) < (l.length : Int)) = true := by simp; omega
      obtain ⟨b, off, rfl, k0, k1, k2⟩ := HC.out i hlt
      have l0 := cell_below HW.out k0
      have l1 := cell_below HW.out k1
      have l2 := cell_below HW.out k2
      obtain ⟨x, hx⟩ : ∃ x, x = l[i] := ⟨_, rfl⟩
      rw [← hx] at k0 k1 k2 l0 l1 l2
      have B1 : Below wr.heap.size wr (wr.alloc (.cells (enCs x) 39)) := (Below.refl _ _).alloc (Nat.le_refl _) _
      have hm : (wr.alloc (.cells (enCs x) 39)).heap[wr.heap.size]? = some (.cells (enCs x) 39 (0, 0)) := heap_alloc_new _ _
      have hBW1 : Below w.heap.size w (wr.alloc (.cells (enCs x) 39)) := HW.out.trans (B1.mono HW.out.size)
      obtain ⟨v', w', hr, ho, hg, _⟩ := app_row (P := Tryz.prog) w.heap.size 22 22 39 i0 (.agg #[.int .i8 0, .string ⟨#[]⟩, .string ⟨#[]⟩]) 3 40 Tryz.underlying22 hi0 hz0 hz1 hz2 rfl (by decide) _ _ _ (owns_below HO.out B1) wr.heap.size [.int .i8 x.1, .string x.2.1, .string x.2.2] rfl hm (by simp [Value.oneCell']) (by rw [List.length_take]; omega) (by decide) hBW1.size
      have HN : Hid (w'.ownsRow w.heap.size 39 3 v' (l.take (i + 1)).length (enFlat (l.take (i + 1))) ∧ Below w.heap.size w w') := by
        rw [List.take_succ_eq_append_getElem hlt, ← hx]
        refine ⟨?_, grown_below hBW1 (owns_below HO.out B1) hg⟩
        have e : enFlat (l.take i ++ [x]) = enFlat (l.take i) ++ [.int .i8 x.1, .string x.2.1, .string x.2.2] := enFlat_app _ _
        rw [e, List.length_append]
        exact ho
      clear hx k0 k1 k2 B1 hm hBW1 ho hg HO HC
      go_wp2_with (at_builtin; refine Lib.wpList_append_run_sl _ rfl _ _ 22 rfl _ _ rfl rfl hr ?_)
      go_roundw
      case rel => exact ⟨i + 1, by omega, by go_num, HN.out.1, HN.out.2⟩
      case measure => simp [intOf]; omega
    · have hd : decide ((i : Int) < (l.length : Int)) = false := by simp; omega
      have HE : Hid (wr.ownsRow w.heap.size 39 3 u3 l.length (enFlat l)) := by
        have := HO.out
        rw [List.take_of_length_le (by omega)] at this
        exact this
      obtain ⟨xa, xn, xc, rfl⟩ := row_form HE.out
      clear HO HC
      go_wp2
      all_goals (go_ret; exact ⟨_, _, _, rfl, SE_owns HE.out, HW.out⟩)

end Go.Proofs.YtgoiefhhbgollaaGreatDoor

/- AclFixes: the wide list turned, and what the law holds on its way. -/
namespace Go.Proofs.YtgoiefhhbgollaaGreatDoor
open Go.RowKit Go.Shelf
set_option maxRecDepth 8000

/-- What the law has made so far: wide lists and answers. -/
def FK (w : World) (l : List EnT) (who : List IdT) (g1 g2 : Nat) (ans : List (Value × List EnT)) (V : World) : Prop := Below w.heap.size w V ∧ WideE V g1 l ∧ WideI V g2 who ∧ Ans g2 V V.heap.size ans

theorem FK.below {w V V' : World} {l : List EnT} {who : List IdT} {g1 g2 : Nat} {ans : List (Value × List EnT)} (h : FK w l who g1 g2 ans V) (hB : Below V.heap.size V V') : FK w l who g1 g2 ans V' :=
  ⟨h.1.trans (hB.mono h.1.size), h.2.1.below hB, h.2.2.1.below hB, h.2.2.2.below hB.size hB⟩

theorem FK.push {w V V' : World} {l : List EnT} {who : List IdT} {g1 g2 : Nat} {ans ans' : List (Value × List EnT)} (h : FK w l who g1 g2 ans V) (hB : Below V.heap.size V V') (hA : Ans g2 V' V'.heap.size ans') : FK w l who g1 g2 ans' V' :=
  ⟨h.1.trans (hB.mono h.1.size), h.2.1.below hB, h.2.2.1.below hB, hA⟩

/-- A permission turned. -/
abbrev xr (x : Int) : Int := bits .xor .i8 x 2
def tl (l : List EnT) : List EnT := l.map (fun x => (xr x.1, x.2))

/-- The wide list, its first i entries turned. -/
def TurnE (V : World) (g1 : Nat) (l : List EnT) (i : Nat) : Prop := ∃ cs, V.ownsRow g1 39 3 (.slice (some ⟨g1, 0, none⟩) (l.length + 64) (l.length + 64)) (l.length + 64) cs ∧ ∀ j (hj : j < l.length), cs[j * 3]? = some (.int .i8 (if j < i then xr l[j].1 else l[j].1)) ∧ cs[j * 3 + 1]? = some (.string l[j].2.1) ∧ cs[j * 3 + 2]? = some (.string l[j].2.2)

theorem TurnE.start {V : World} {g1 : Nat} {l : List EnT} (h : WideE V g1 l) : TurnE V g1 l 0 := by
  obtain ⟨cs, h1, h2⟩ := h
  refine ⟨cs, h1, fun j hj => ?_⟩
  have e : wdE l j = l[j] := by unfold wdE; rw [List.getD_eq_getElem?_getD, List.getElem?_eq_getElem hj]; rfl
  have := h2 j (by omega)
  rw [e] at this
  simpa using this

theorem TurnE.below {V V' : World} {g1 i : Nat} {l : List EnT} (h : TurnE V g1 l i) (hB : Below V.heap.size V V') : TurnE V' g1 l i := by
  obtain ⟨cs, h1, h2⟩ := h
  exact ⟨cs, owns_below h1 hB, h2⟩

/-- What the law holds while it turns the list. -/
def FL (w : World) (l : List EnT) (who : List IdT) (g1 g2 : Nat) (ans : List (Value × List EnT)) (i : Nat) (V : World) : Prop := Below w.heap.size w V ∧ TurnE V g1 l i ∧ WideI V g2 who ∧ Ans g2 V V.heap.size ans

theorem FL.below {w V V' : World} {l : List EnT} {who : List IdT} {g1 g2 i : Nat} {ans : List (Value × List EnT)} (h : FL w l who g1 g2 ans i V) (hB : Below V.heap.size V V') : FL w l who g1 g2 ans i V' :=
  ⟨h.1.trans (hB.mono h.1.size), h.2.1.below hB, h.2.2.1.below hB, h.2.2.2.below hB.size hB⟩

theorem FL.push {w V V' : World} {l : List EnT} {who : List IdT} {g1 g2 i : Nat} {ans ans' : List (Value × List EnT)} (h : FL w l who g1 g2 ans i V) (hB : Below V.heap.size V V') (hA : Ans g2 V' V'.heap.size ans') : FL w l who g1 g2 ans' i V' :=
  ⟨h.1.trans (hB.mono h.1.size), h.2.1.below hB, h.2.2.1.below hB, hA⟩

theorem FL.store {w V : World} {l : List EnT} {who : List IdT} {g1 g2 i : Nat} {ans : List (Value × List EnT)} (h : FL w l who g1 g2 ans i V) (hw : w.heap.size ≤ g1) (hg : g1 < g2) (hi : i < l.length) : FL w l who g1 g2 ans (i + 1) (V.setCell ⟨g1, i * 3, none⟩ (.int .i8 (xr l[i].1))) := by
  obtain ⟨h1, ⟨cs, h2, h3⟩, ⟨ds, h4, h5⟩, h6⟩ := h
  have hk : Kept V (V.setCell ⟨g1, i * 3, none⟩ (.int .i8 (xr l[i].1))) (fun k => k = g1) := (Kept.refl V _).setCell _ _ (fun _ => rfl)
  have hl : cs.length = (l.length + 64) * 3 := h2.1
  refine ⟨h1.setCell (p := ⟨g1, i * 3, none⟩) hw _, ⟨_, (h2.stored (i * 3) (.int .i8 (xr l[i].1))).1, fun j hj => ?_⟩, ⟨ds, row_kept h4 hk (fun g e e2 => ?_), h5⟩, ?_⟩
  · obtain ⟨a0, a1, a2⟩ := h3 j hj
    refine ⟨?_, by rw [List.getElem?_set_ne (by omega)]; exact a1, by rw [List.getElem?_set_ne (by omega)]; exact a2⟩
    by_cases hji : j = i
    · subst hji
      rw [List.getElem?_set_self (by omega), if_pos (by omega)]
    · rw [List.getElem?_set_ne (by omega), a0]
      by_cases hlt : j < i
      · rw [if_pos hlt, if_pos (by omega)]
      · rw [if_neg hlt, if_neg (by omega)]
  · have := row_base h4 e
    omega
  · have hs : V.heap.size = (V.setCell ⟨g1, i * 3, none⟩ (.int .i8 (xr l[i].1))).heap.size := by simp
    rw [← hs]
    exact h6.kept hk (fun k h7 _ e => by omega)

theorem TurnE.sees {V : World} {g1 : Nat} {l : List EnT} (h : TurnE V g1 l l.length) : SE V (.slice (some ⟨g1, 0, none⟩) l.length (l.length + 64)) (tl l) := by
  obtain ⟨cs, h1, h2⟩ := h
  refine ⟨_, _, by simp [tl]; rfl, by simp [tl], fun _ => ⟨g1, 0, rfl, fun i x hx => ?_⟩⟩
  have hi : i < l.length := by
    have := (List.getElem?_eq_some_iff.1 hx).1
    simpa [tl] using this
  obtain ⟨a0, a1, a2⟩ := h2 i hi
  rw [if_pos hi] at a0
  have e : x = (xr l[i].1, l[i].2) := by
    unfold tl at hx
    rw [List.getElem?_map, List.getElem?_eq_getElem hi] at hx
    exact (Option.some.inj hx).symm
  subst e
  refine ⟨?_, ?_, ?_⟩
  · rw [Nat.zero_add, h1.cellAt _ (by omega)]; exact a0
  · rw [Nat.zero_add, h1.cellAt _ (by omega)]; exact a1
  · rw [Nat.zero_add, h1.cellAt _ (by omega)]; exact a2

theorem TurnE.row {V : World} {g1 i : Nat} {l : List EnT} (h : TurnE V g1 l i) : ∃ xs, V.ownsRow g1 39 3 (.slice (some ⟨g1, 0, none⟩) l.length (l.length + 64)) l.length xs := by
  obtain ⟨cs, h1, _⟩ := h
  have hl : cs.length = (l.length + 64) * 3 := h1.1
  exact ⟨cs.take (l.length * 3), row_front (m := 64) (ys := cs.drop (l.length * 3)) (by rw [List.take_append_drop]; exact h1) (by rw [List.length_take]; omega)⟩

theorem WideI.row {V : World} {g2 : Nat} {l : List IdT} (h : WideI V g2 l) : ∃ xs, V.ownsRow g2 37 2 (.slice (some ⟨g2, 0, none⟩) l.length (l.length + 64)) l.length xs := by
  obtain ⟨cs, h1, _⟩ := h
  have hl : cs.length = (l.length + 64) * 2 := h1.1
  exact ⟨cs.take (l.length * 2), row_front (m := 64) (ys := cs.drop (l.length * 2)) (by rw [List.take_append_drop]; exact h1) (by rw [List.length_take]; omega)⟩

theorem TurnE.cell {V : World} {g1 i : Nat} {l : List EnT} (h : TurnE V g1 l i) (hi : i < l.length) : V.cell? ⟨g1, i * 3, none⟩ = some (.int .i8 l[i].1) ∧ V.frozen? ⟨g1, i * 3, none⟩ = false := by
  obtain ⟨cs, h1, h2⟩ := h
  have hl : cs.length = (l.length + 64) * 3 := h1.1
  refine ⟨?_, h1.frozenAt (i * 3)⟩
  rw [h1.cellAt _ (by omega), (h2 i hi).1, if_neg (by omega)]

theorem FL.kept {w V V' : World} {l : List EnT} {who : List IdT} {g1 g2 i : Nat} {ans : List (Value × List EnT)} {S : Nat → Prop} (h : FL w l who g1 g2 ans i V) (hk : Kept V V' S) (hS : ∀ k, k < V.heap.size → S k → w.heap.size ≤ k ∧ ∃ cs T fr, V.heap[k]? = some (.cells cs T fr) ∧ T ≠ 39 ∧ T ≠ 37) : FL w l who g1 g2 ans i V' := by
  obtain ⟨h1, ⟨cs, h2, h3⟩, ⟨ds, h4, h5⟩, h6⟩ := h
  refine ⟨h1.trans ⟨hk.os, hk.tape, hk.output, hk.size, fun k hkB => hk.block k (Nat.lt_of_lt_of_le hkB h1.size) (fun hs => ?_)⟩, ⟨cs, row_kept h2 hk (fun g e hs => ?_), h3⟩, ⟨ds, row_kept h4 hk (fun g e hs => ?_), h5⟩, ?_⟩
  · have := (hS k (Nat.lt_of_lt_of_le hkB h1.size) hs).1
    omega
  · obtain ⟨_, cs, T, fr, hr, hT, _⟩ := hS g (row_lt h2 e) hs
    exact row_not h2 hr hT e
  · obtain ⟨_, cs, T, fr, hr, _, hT⟩ := hS g (row_lt h4 e) hs
    exact row_not h4 hr hT e
  · exact (h6.kept hk (fun k _ h8 hs => by
      obtain ⟨_, cs, T, fr, hr, hT, _⟩ := hS k h8 hs
      exact ⟨cs, T, fr, hr, hT⟩)).below hk.size (Below.refl _ _)

theorem row_zero {w : World} {base : Nat} {T : TypeId} {z n : Nat} {v : Value} {xs : List Value} (h : w.ownsRow base T z v n xs) : w.ownsRow 0 T z v n xs := by
  obtain ⟨h1, h2 | ⟨g, cap, cur, a1, a2, a3⟩⟩ := h
  · exact ⟨h1, .inl h2⟩
  · exact ⟨h1, .inr ⟨g, cap, cur, a1, Nat.zero_le _, a3⟩⟩

theorem rows_some {w : World} {T : TypeId} {z : Nat} {rs : List Rw} (h : ∀ j (hj : j < rs.length), ∃ xs, w.ownsRow 0 T z rs[j].v rs[j].n xs) : ∃ Xs, RowsR w T z rs Xs := by
  refine ⟨fun j => if hj : j < rs.length then (h j hj).choose else [], fun j hj => ?_⟩
  dsimp only
  rw [dif_pos hj]
  exact (h j hj).choose_spec

theorem fixes_rows {w V : World} {l : List EnT} {who : List IdT} {g1 g2 : Nat} {a b c d o p t q : Value} {fa fb fc fd fo fp ft fq : List EnT} (hg : g1 < g2) (h : FL w l who g1 g2 [(q, fq), (d, fd), (p, fp), (c, fc), (o, fo), (b, fb), (a, fa), (t, ft)] l.length V) :
    (∃ X, RowsR V 39 3 [⟨a, fa.length⟩, ⟨b, fb.length⟩, ⟨c, fc.length⟩, ⟨d, fd.length⟩, ⟨o, fo.length⟩, ⟨.slice (some ⟨g1, 0, none⟩) l.length (l.length + 64), l.length⟩] X) ∧
    ApartR [⟨a, fa.length⟩, ⟨b, fb.length⟩, ⟨c, fc.length⟩, ⟨d, fd.length⟩, ⟨o, fo.length⟩, ⟨.slice (some ⟨g1, 0, none⟩) l.length (l.length + 64), l.length⟩] ∧
    ∀ k, BlkR [⟨a, fa.length⟩, ⟨b, fb.length⟩, ⟨c, fc.length⟩, ⟨d, fd.length⟩, ⟨o, fo.length⟩, ⟨.slice (some ⟨g1, 0, none⟩) l.length (l.length + 64), l.length⟩] k → g1 ≤ k := by
  obtain ⟨q0, q1, q2, q3, d0, d1, d2, d3, p0, p1, p2, p3, c0, c1, c2, c3, o0, o1, o2, o3, b0, b1, b2, b3, a0, a1, a2, a3, t0, t1, t2, t3, t4⟩ := h.2.2.2
  obtain ⟨xs, hx⟩ := h.2.1.row
  have t5 : g2 < t0 := t4
  have Fa : ∀ g, a.ownBlock = some g → a0 ≤ g ∧ g < b0 := fun g e => ⟨row_base a2 e, a3 g e⟩
  have Fb : ∀ g, b.ownBlock = some g → b0 ≤ g ∧ g < o0 := fun g e => ⟨row_base b2 e, b3 g e⟩
  have Fo : ∀ g, o.ownBlock = some g → o0 ≤ g ∧ g < c0 := fun g e => ⟨row_base o2 e, o3 g e⟩
  have Fc : ∀ g, c.ownBlock = some g → c0 ≤ g ∧ g < p0 := fun g e => ⟨row_base c2 e, c3 g e⟩
  have Fd' : ∀ g, d.ownBlock = some g → d0 ≤ g ∧ g < q0 := fun g e => ⟨row_base d2 e, d3 g e⟩
  have Fi : ∀ g, (Value.slice (some ⟨g1, 0, none⟩) l.length (l.length + 64)).ownBlock = some g → g1 ≤ g ∧ g < g1 + 1 := fun g e => by
    simp [Value.ownBlock] at e
    omega
  refine ⟨rows_some (fun j hj => ?_), fun i j hi hj hne g e1 e2 => ?_, fun k hk => ?_⟩
  · have hj0 : j = 0 ∨ j = 1 ∨ j = 2 ∨ j = 3 ∨ j = 4 ∨ j = 5 := by simp at hj; omega
    rcases hj0 with rfl | rfl | rfl | rfl | rfl | rfl
    · exact ⟨_, row_zero a2⟩
    · exact ⟨_, row_zero b2⟩
    · exact ⟨_, row_zero c2⟩
    · exact ⟨_, row_zero d2⟩
    · exact ⟨_, row_zero o2⟩
    · exact ⟨_, row_zero hx⟩
  · have hi0 : i = 0 ∨ i = 1 ∨ i = 2 ∨ i = 3 ∨ i = 4 ∨ i = 5 := by simp at hi; omega
    have hj0 : j = 0 ∨ j = 1 ∨ j = 2 ∨ j = 3 ∨ j = 4 ∨ j = 5 := by simp at hj; omega
    clear q2 d2 p2 c2 o2 b2 a2 t2 q3 d3 p3 c3 o3 b3 a3 t3 hx h
    have G1 : (i = 0 → a0 ≤ g ∧ g < b0) ∧ (i = 1 → b0 ≤ g ∧ g < o0) ∧ (i = 2 → c0 ≤ g ∧ g < p0) ∧ (i = 3 → d0 ≤ g ∧ g < q0) ∧ (i = 4 → o0 ≤ g ∧ g < c0) ∧ (i = 5 → g1 ≤ g ∧ g < g1 + 1) := by
      refine ⟨fun e => ?_, fun e => ?_, fun e => ?_, fun e => ?_, fun e => ?_, fun e => ?_⟩
      · subst e; exact Fa g e1
      · subst e; exact Fb g e1
      · subst e; exact Fc g e1
      · subst e; exact Fd' g e1
      · subst e; exact Fo g e1
      · subst e; exact Fi g e1
    have G2 : (j = 0 → a0 ≤ g ∧ g < b0) ∧ (j = 1 → b0 ≤ g ∧ g < o0) ∧ (j = 2 → c0 ≤ g ∧ g < p0) ∧ (j = 3 → d0 ≤ g ∧ g < q0) ∧ (j = 4 → o0 ≤ g ∧ g < c0) ∧ (j = 5 → g1 ≤ g ∧ g < g1 + 1) := by
      refine ⟨fun e => ?_, fun e => ?_, fun e => ?_, fun e => ?_, fun e => ?_, fun e => ?_⟩
      · subst e; exact Fa g e2
      · subst e; exact Fb g e2
      · subst e; exact Fc g e2
      · subst e; exact Fd' g e2
      · subst e; exact Fo g e2
      · subst e; exact Fi g e2
    clear Fa Fb Fc Fd' Fo Fi e1 e2 hi hj
    omega
  · obtain ⟨j, hj, e⟩ := hk
    have hj0 : j = 0 ∨ j = 1 ∨ j = 2 ∨ j = 3 ∨ j = 4 ∨ j = 5 := by simp at hj; omega
    rcases hj0 with rfl | rfl | rfl | rfl | rfl | rfl
    · have := (Fa k e).1; omega
    · have := (Fb k e).1; omega
    · have := (Fc k e).1; omega
    · have := (Fd' k e).1; omega
    · have := (Fo k e).1; omega
    · exact (Fi k e).1

theorem bag_S {B : Nat} {V : World} {g : Nat} {iv av : Value} {ps qs : List Value} (h : BagIA V g iv av ps qs B) (hg : B ≤ g) : ∀ k, k < V.heap.size → (k = g ∨ av.ownBlock = some k) → B ≤ k ∧ ∃ cs T fr, V.heap[k]? = some (.cells cs T fr) ∧ T ≠ 39 ∧ T ≠ 37 := by
  intro k _ e
  rcases e with rfl | e
  · exact ⟨hg, _, _, _, h.row, by decide, by decide⟩
  · obtain ⟨cs, e'⟩ := row_type h.acl e
    exact ⟨row_base h.acl e, _, _, _, e', by decide, by decide⟩

theorem bag_Si {B : Nat} {V : World} {g : Nat} {iv av : Value} {ps qs : List Value} (h : BagIA V g iv av ps qs B) (hg : B ≤ g) : ∀ k, k < V.heap.size → (k = g ∨ iv.ownBlock = some k) → B ≤ k ∧ ∃ cs T fr, V.heap[k]? = some (.cells cs T fr) ∧ T ≠ 39 ∧ T ≠ 37 := by
  intro k _ e
  rcases e with rfl | e
  · exact ⟨hg, _, _, _, h.row, by decide, by decide⟩
  · obtain ⟨cs, e'⟩ := row_type h.ids e
    exact ⟨row_base h.ids e, _, _, _, e', by decide, by decide⟩



end Go.Proofs.YtgoiefhhbgollaaGreatDoor
