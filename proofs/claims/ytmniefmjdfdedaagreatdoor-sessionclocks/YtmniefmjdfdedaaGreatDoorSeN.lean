/- slices.SortFunc of a list of sessions of one's own. -/
import Derived.Test.YtmniefmjdfdedaaGreatDoorSeM
import Derived.Test.YtmniefmjdfdedaaGreatDoorShelfF
import Derived.Shelf.SlSortCmp.WholeK
import Derived.Shelf.SlSortCmp.NoneTotal
namespace Go.Proofs.YtmniefmjdfdedaaGreatDoor
open Go.RowKit Go.Shelf
set_option maxRecDepth 8000
set_option linter.unusedSimpArgs false

abbrev srtS (l : List (Int × Int)) : List (Int × Int) := l.mergeSort fun x y => decide (x.1 ≤ y.1)
theorem ltS (x y : Int × Int) : ltOf (fun x y : Int × Int => Lib.compareInt x.1 y.1) x y = decide (x.1 < y.1) := by
  unfold ltOf Lib.compareInt
  by_cases h1 : x.1 < y.1
  · simp [h1]
  · by_cases h2 : y.1 < x.1 <;> simp [h1, h2]
theorem swoS : Sort.SWO (ltOf fun x y : Int × Int => Lib.compareInt x.1 y.1) where
  irrefl x := by rw [ltS]; simp
  trans x y z h1 h2 := by rw [ltS] at *; simp at *; omega
  ntrans x y z h1 h2 := by rw [ltS] at *; simp at *; omega
theorem uniqS {l : List (Int × Int)} (h : (l.map (·.1)).Nodup) {x y : Int × Int} (hx : x ∈ l) (hy : y ∈ l) (e : x.1 = y.1) : x = y := by
  obtain ⟨i, hi⟩ := List.getElem?_of_mem hx
  obtain ⟨j, hj⟩ := List.getElem?_of_mem hy
  have := nodup_at (fun z : Int × Int => z.1) h hi hj e
  subst this
  rw [hi] at hj
  exact Option.some.inj hj
theorem srtS_up (l : List (Int × Int)) : (srtS l).Pairwise (fun a b => a.1 ≤ b.1) :=
  (List.pairwise_mergeSort (le := fun x y : Int × Int => decide (x.1 ≤ y.1)) (fun a b c h1 h2 => by simp at *; omega) (fun a b => by simp; omega) l).imp (fun h => by simpa using h)
theorem srtS_is {l l' : List (Int × Int)} (hnd : (l.map (·.1)).Nodup) (hp : l'.Perm l) (hs : l'.Pairwise (fun a b => a.1 ≤ b.1)) : l' = srtS l :=
  List.Perm.eq_of_pairwise (le := fun a b : Int × Int => a.1 ≤ b.1) (fun _ _ ha hb h1 h2 => uniqS hnd (hp.subset ha) ((List.mergeSort_perm l _).subset hb) (Int.le_antisymm h1 h2)) hs (srtS_up l) (hp.trans (List.mergeSort_perm l _).symm)
theorem sorted_list {d d' : Array (Int × Int)} (hp : Sort.PermIn 0 d.size d d') (hs : Sort.SortedIn (ltOf fun x y : Int × Int => Lib.compareInt x.1 y.1) 0 d.size d') : d'.toList.Perm d.toList ∧ d'.toList.Pairwise (fun a b => a.1 ≤ b.1) := by
  obtain ⟨h1, _, h3⟩ := hp
  constructor
  · rw [show d'.extract 0 d.size = d' by rw [← h1]; simp, show d.extract 0 d.size = d by simp] at h3
    exact h3
  · rw [List.pairwise_iff_getElem]
    intro i j hi hj hij
    have := hs i j (Nat.zero_le _) hij (by simp at hj; omega)
    rw [ltS] at this
    simp at hi hj
    simp [hi, hj] at this
    simpa using this

/-- slices.SortFunc by ids of a list of one's own. -/
theorem sort_s {w : World} {base : Nat} {v : Value} {l : List (Int × Int)} (ho : OS w base v l) (hl : l.length ≤ 2000000000) (hnd : (l.map (·.1)).Nodup) :
    Calls Tryz.prog 33 #[v, .func (.func 34) #[] #[]] w fun e w' => e = .returned (.tuple #[]) ∧ OS w' base v (srtS l) ∧ Kept w w' (fun k => v.ownBlock = some k) := by
  obtain ⟨hl0, ⟨rfl, h0⟩ | ⟨g, cap, cur, rfl, a2, a3, a4, a5, a6, a7⟩⟩ := ho
  · have hn : l = [] := List.length_eq_zero_iff.1 h0
    subst hn
    refine (AnyF.slices_SortFunc_none Tryz.sortF none 0 _ w).mono (fun e w' hh => ?_)
    obtain ⟨rfl, rfl⟩ := hh
    refine ⟨rfl, ?_, Kept.refl _ _⟩
    rw [show srtS [] = [] by simp [srtS]]
    exact World.ownsRow_nil _ _ _ _
  · have eg : ∀ args w, (callFunc 34 args).run Tryz.prog w = .ok (.enter 34 args) w := enters_of Tryz.func34 (by kernel_rfl) rfl
    have hcmp : CmpLays Tryz.prog 34 #[] ssL 2 (fun x y : Int × Int => Lib.compareInt x.1 y.1) g 0 l.toArray.size w := fun _ _ _ _ x y => closureS x y _
    have hcon := AnyQ.slices_SortFunc Tryz.sortF 2 Tryz.isAgg93 Tryz.sizeOf93 ssL (fun _ => rfl) (fun x v hv => by simp [ssL] at hv; rcases hv with rfl | rfl <;> rfl) (fun x y => Lib.compareInt x.1 y.1) swoS 34 #[] g 0 cap l.toArray w eg hcmp (holds_ss a3 a7) (lt_of_block a3) (by simp; omega)
    refine hcon.mono (fun e w' hh => ?_)
    obtain ⟨rfl, d', n, os, hp, hs, rfl⟩ := hh
    obtain ⟨q1, q2⟩ := sorted_list hp hs
    have e1 : d'.toList = srtS l := srtS_is hnd (by simpa using q1) q2
    have e2 : d' = (srtS l).toArray := by rw [← e1]
    subst e2
    have hle : (srtS l).length = l.length := by simp
    refine ⟨rfl, ?_, ?_⟩
    · unfold OS
      rw [hle]
      exact ⟨by rw [ssL_flat, hle], .inr ⟨g, cap, _, rfl, a2, heap_ss _ a3, a4, a5, by simp [Sort.putCells, a6], by rw [← hle]; exact take_ss cur _ (by rw [hle, a6]; omega)⟩⟩
    · have := kept_ss (w := w) (g := g) (n := n) (os := os) (srtS l).toArray
      exact ⟨this.os, this.tape, this.output, this.size, fun k hk hn => this.block k hk (fun e => hn (by simp [Value.ownBlock]; exact (Option.some.inj e).symm))⟩

end Go.Proofs.YtmniefmjdfdedaaGreatDoor
