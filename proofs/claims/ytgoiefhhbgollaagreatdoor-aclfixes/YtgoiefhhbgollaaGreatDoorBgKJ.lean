/- For AclFixes: the answers gathered so far, each in a block of its own; a copy of a long list; the wide list turned. -/
import Derived.Test.YtgoiefhhbgollaaGreatDoorPaPJ
import Derived.Test.YtgoiefhhbgollaaGreatDoorQcQJ
import Derived.Test.YtgoiefhhbgollaaGreatDoorQdBJ
import Derived.Test.YtgoiefhhbgollaaGreatDoorQdHJ
import Derived.Test.YtgoiefhhbgollaaGreatDoorQdKJ
import Derived.Test.YtgoiefhhbgollaaGreatDoorQcNJ
namespace Go.Proofs.YtgoiefhhbgollaaGreatDoor
open Go.RowKit Go.Shelf
set_option maxRecDepth 8000

/-- Lists of one's own, the newest first, each in a block ahead of the one behind. -/
def Ans (b : Nat) (V : World) : Nat → List (Value × List EnT) → Prop
  | hi, [] => b < hi
  | hi, (v, f) :: ans => ∃ lo, lo ≤ hi ∧ V.ownsRow lo 39 3 v f.length (enFlat f) ∧ (∀ g, v.ownBlock = some g → g < hi) ∧ Ans b V lo ans

theorem Ans.below {b : Nat} {V V' : World} {hi hi' : Nat} {ans : List (Value × List EnT)} (h : Ans b V hi ans) (hh : hi ≤ hi') (hB : Below V.heap.size V V') : Ans b V' hi' ans := by
  induction ans generalizing hi hi' with
  | nil => exact Nat.lt_of_lt_of_le h hh
  | cons a ans ih =>
    obtain ⟨v, f⟩ := a
    obtain ⟨lo, h1, h2, h3, h4⟩ := h
    exact ⟨lo, by omega, owns_below h2 hB, fun g e => Nat.lt_of_lt_of_le (h3 g e) hh, ih h4 (Nat.le_refl _)⟩

theorem Ans.base {b : Nat} {V : World} {hi : Nat} {ans : List (Value × List EnT)} (h : Ans b V hi ans) : b < hi := by
  induction ans generalizing hi with
  | nil => exact h
  | cons a ans ih =>
    obtain ⟨v, f⟩ := a
    obtain ⟨lo, h1, h2, h3, h4⟩ := h
    exact Nat.lt_of_lt_of_le (ih h4) h1

theorem Ans.mem {b : Nat} {V : World} {hi : Nat} {ans : List (Value × List EnT)} (h : Ans b V hi ans) {v : Value} {f : List EnT} (hm : (v, f) ∈ ans) : SE V v f := by
  induction ans generalizing hi with
  | nil => cases hm
  | cons a ans ih =>
    obtain ⟨v', f'⟩ := a
    obtain ⟨lo, h1, h2, h3, h4⟩ := h
    rcases List.mem_cons.1 hm with e | e
    · cases e
      exact SE_owns h2
    · exact ih h4 e

theorem Ans.kept {b : Nat} {V V' : World} {hi : Nat} {ans : List (Value × List EnT)} (h : Ans b V hi ans) {S : Nat → Prop} (hk : Kept V V' S) (hS : ∀ k, b < k → k < V.heap.size → S k → ∃ cs T fr, V.heap[k]? = some (.cells cs T fr) ∧ T ≠ 39) : Ans b V' hi ans := by
  induction ans generalizing hi with
  | nil => exact h
  | cons a ans ih =>
    obtain ⟨v, f⟩ := a
    obtain ⟨lo, h1, h2, h3, h4⟩ := h
    refine ⟨lo, h1, row_kept h2 hk (fun g e hs => ?_), h3, ih h4⟩
    obtain ⟨cs, T, fr, hr, hT⟩ := hS g (Nat.lt_of_lt_of_le h4.base (row_base h2 e)) (row_lt h2 e) hs
    exact row_not h2 hr hT e

/-- What Fix gives. -/
def fxV (l : List EnT) (who : List IdT) : List EnT := (fixA l who).getD []

theorem fxV_len (l : List EnT) (who : List IdT) : (fxV l who).length ≤ 4 := by
  unfold fxV
  cases h : fixA l who with
  | none => simp
  | some f => exact ((enLs_iff f).1 ((fxLs_iff f).1 (fixA_fixed h)).1).1

theorem Ans.push {b : Nat} {V V' : World} {ans : List (Value × List EnT)} {v : Value} {f : List EnT} (h : Ans b V V.heap.size ans) (hB : Below V.heap.size V V') (ho : V'.ownsRow V.heap.size 39 3 v f.length (enFlat f)) : Ans b V' V'.heap.size ((v, f) :: ans) :=
  ⟨V.heap.size, hB.size, ho, fun _ e => row_lt ho e, h.below (Nat.le_refl _) hB⟩

theorem fix_ans (v u : Value) (l : List EnT) (who : List IdT) (V : World) (ans : List (Value × List EnT)) (b : Nat) (ce : Int) (hce : ce = if (fixA l who).isSome = true then (0 : Int) else 60) (hA : Ans b V V.heap.size ans) (h : SE V v l) (g : SI V u who) (hsz : ∀ x ∈ l, x.2.2.size ≤ 4294967296) (gsz : ∀ x ∈ who, x.2.size ≤ 4294967296) :
    Calls Tryz.prog 9 #[v, u] V fun e w' => ∃ xa xn xc, e = .returned (.tuple #[.slice xa xn xc, .int .i64 ce]) ∧ Ans b w' w'.heap.size ((.slice xa xn xc, fxV l who) :: ans) ∧ Below V.heap.size V w' :=
  (fix_gen v u l who V h g hsz gsz).mono (fun e w' hh => by
    obtain ⟨⟨fv, rfl, ho, _⟩, hB⟩ := hh
    obtain ⟨xa, xn, xc, rfl⟩ := row_form ho
    exact ⟨xa, xn, xc, by rw [hce], hA.push hB ho, hB⟩)

theorem refFix_ans (v u : Value) (l : List EnT) (who : List IdT) (V : World) (ans : List (Value × List EnT)) (b : Nat) (ce : Int) (hce : ce = if (fixA l who).isSome = true then (0 : Int) else 60) (hA : Ans b V V.heap.size ans) (h : SE V v l) (g : SI V u who) (hsz : ∀ x ∈ l, x.2.2.size ≤ 4294967296) (gsz : ∀ x ∈ who, x.2.size ≤ 4294967296) :
    Calls Tryz.prog 8 #[v, u] V fun e w' => ∃ xa xn xc, e = .returned (.tuple #[.slice xa xn xc, .int .i64 ce]) ∧ Ans b w' w'.heap.size ((.slice xa xn xc, fxV l who) :: ans) ∧ Below V.heap.size V w' :=
  (refFix_any v u l who V h g hsz gsz).mono (fun e w' hh => by
    obtain ⟨⟨fv, rfl, ho⟩, hB⟩ := hh
    obtain ⟨xa, xn, xc, rfl⟩ := row_form ho
    exact ⟨xa, xn, xc, by rw [hce], hA.push hB ho, hB⟩)

theorem SE_none (V : World) : SE V (.slice none 0 0) [] := ⟨none, 0, rfl, Nat.le_refl _, fun h => absurd rfl h⟩

/-- Equal lists, nothing but the tape used up. -/
theorem eqAcl_fx (v u : Value) (f : List EnT) (w : World) (h : SE w v f) (g : SE w u f) (hl : f.length ≤ 2000000000) :
    Calls Tryz.prog 10 #[v, u] w fun e w' => e = .returned (.bool true) ∧ Below w.heap.size w w' :=
  (eqAcl_se v u f w h g hl).mono (fun e w' hh => by
    obtain ⟨rfl, k, rfl⟩ := hh
    exact ⟨rfl, below_drewN (Below.refl _ _) _⟩)

theorem eqIds_fx (v u : Value) (f : List IdT) (w : World) (h : SI w v f) (g : SI w u f) (hl : f.length ≤ 2000000000) :
    Calls Tryz.prog 12 #[v, u] w fun e w' => e = .returned (.bool true) ∧ Below w.heap.size w w' :=
  (eqIds_se v u f w h g hl).mono (fun e w' hh => by
    obtain ⟨rfl, k, rfl⟩ := hh
    exact ⟨rfl, below_drewN (Below.refl _ _) _⟩)

set_option maxHeartbeats 2000000 in
theorem copyAcl_long (u : Value) (l : List EnT) (w : World) (g : SE w u l) (glen : l.length ≤ 1100000000) : Calls Tryz.prog 14 #[u] w fun e w' => ∃ xa xn xc, e = .returned (.slice xa xn xc) ∧ SE w' (.slice xa xn xc) l ∧ Below w.heap.size w w' := by
  obtain ⟨i0, hi0, hz0, hz1, hz2⟩ := info3B Tryz.infoEnB
  obtain ⟨ao, cap, rfl, hcap, HC⟩ := SE_cells g
  clear g
  go_enter Tryz.func14, Tryz.ntmps14
  go_wp2
  go_loopw [3, 4] (fun vs vi wr => ∃ i : Nat, i ≤ l.length ∧ vi = .int .i64 (i : Int) ∧ Hid (wr.ownsRow w.heap.size 39 3 vs (l.take i).length (enFlat (l.take i))) ∧ Hid (Below w.heap.size w wr)) (fun _ vi _ => l.length - (intOf vi).toNat)
  case atStart => exact ⟨0, by omega, rfl, World.ownsRow_nil w _ _ _, Below.refl _ _⟩
  case round =>
    obtain ⟨i, hi, rfl, HO, HW⟩ := hrel
    by_cases hlt : i < l.length
    · have hd : decide ((i : Int) < (l.length : Int)) = true := by simp; omega
      obtain ⟨b, off, rfl, k0, k1, k2⟩ := HC.out i hlt
      have l0 := cell_below HW.out k0
      have l1 := cell_below HW.out k1
      have l2 := cell_below HW.out k2
      obtain ⟨x, hx⟩ : ∃ x, x = l[i] := ⟨_, rfl⟩
      rw [← hx] at k0 k1 k2 l0 l1 l2
      have B1 : Below wr.heap.size wr (wr.alloc (.cells (enCs x) 39)) := (Below.refl _ _).alloc (Nat.le_refl _) _
      have hm : (wr.alloc (.cells (enCs x) 39)).heap[wr.heap.size]? = some (.cells (enCs x) 39 (0, 0)) := heap_alloc_new _ _
      have hBW1 : Below w.heap.size w (wr.alloc (.cells (enCs x) 39)) := HW.out.trans (B1.mono HW.out.size)
      obtain ⟨v', w', hr, ho, hg, _⟩ := app_row (P := Tryz.prog) w.heap.size 22 22 39 i0 (.agg #[.int .i8 0, .string ⟨#[]⟩, .string ⟨#[]⟩]) 3 40 Tryz.underlying22 hi0 hz0 hz1 hz2 rfl (by decide) _ _ _ (owns_below HO.out B1) wr.heap.size [.int .i8 x.1, .string x.2.1, .string x.2.2] rfl hm (by simp [Value.oneCell']) (by rw [List.length_take]; omega) (by decide) hBW1.size
      have HN : Hid (w'.ownsRow w.heap.size 39 3 v' (l.take (i + 1)).length (enFlat (l.take (i + 1))) ∧ Below w.heap.size w w') := by
        rw [List.take_succ_eq_append_getElem hlt, ← hx]
        refine ⟨?_, grown_below hBW1 (owns_below HO.out B1) hg⟩
        have e : enFlat (l.take i ++ [x]) = enFlat (l.take i) ++ [.int .i8 x.1, .string x.2.1, .string x.2.2] := enFlat_app _ _
        rw [e, List.length_append]
        exact ho
      clear hx k0 k1 k2 B1 hm hBW1 ho hg HO HC
      go_wp2_with (at_builtin; refine Lib.wpList_append_run_sl _ rfl _ _ 22 rfl _ _ rfl rfl hr ?_)
      go_roundw
      case rel => exact ⟨i + 1, by omega, by go_num, HN.out.1, HN.out.2⟩
      case measure => simp [intOf]; omega
    · have hd : decide ((i : Int) < (l.length : Int)) = false := by simp; omega
      have HE : Hid (wr.ownsRow w.heap.size 39 3 u3 l.length (enFlat l)) := by
        have := HO.out
        rw [List.take_of_length_le (by omega)] at this
        exact this
      obtain ⟨xa, xn, xc, rfl⟩ := row_form HE.out
      clear HO HC
      go_wp2
      all_goals (go_ret; exact ⟨_, _, _, rfl, SE_owns HE.out, HW.out⟩)

end Go.Proofs.YtgoiefhhbgollaaGreatDoor
