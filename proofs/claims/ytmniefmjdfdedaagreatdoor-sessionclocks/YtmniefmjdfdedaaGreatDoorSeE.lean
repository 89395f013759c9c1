/- slices.Sort of a list of ids of one's own; an append of an id. -/
import Derived.Test.YtmniefmjdfdedaaGreatDoorSeB
import Derived.Test.YtmniefmjdfdedaaGreatDoorShelfS
import Derived.Sort.OwnSortedInts
namespace Go.Proofs.YtmniefmjdfdedaaGreatDoor
open Go.RowKit Go.Shelf
set_option maxRecDepth 8000

theorem Tryz.infoId : (Tryz.prog.info? 2).map (fun i => (i.zero, i.size, i.bytes)) = some (some (.int .i64 0), 1, 8) := by kernel_rfl
theorem infoX {T : TypeId} {z : Value} {s b : Nat} (h : (Tryz.prog.info? T).map (fun i => (i.zero, i.size, i.bytes)) = some (some z, s, b)) : ∃ i, Tryz.prog.info? T = some i ∧ i.zero = some z ∧ i.size = s ∧ i.bytes = b := by
  cases hh : Tryz.prog.info? T with
  | none => rw [hh] at h; simp at h
  | some i => rw [hh] at h; simp at h; exact ⟨i, rfl, h.1, h.2.1, h.2.2⟩
theorem rowK {w w' : World} {S : Nat → Prop} {base : Nat} {T : TypeId} {z n : Nat} {v : Value} {xs : List Value} (h : w.ownsRow base T z v n xs) (hk : Kept w w' S) (hn : ∀ g, v.ownBlock = some g → ¬ S g) : w'.ownsRow base T z v n xs := by
  obtain ⟨h1, h2 | ⟨g, cap, cur, rfl, a2, a3, a4⟩⟩ := h
  · exact ⟨h1, .inl h2⟩
  · exact ⟨h1, .inr ⟨g, cap, cur, rfl, a2, hk.heap a3 (hn g rfl), a4⟩⟩
theorem rowT {w : World} {base : Nat} {T : TypeId} {z n : Nat} {v : Value} {xs : List Value} (h : w.ownsRow base T z v n xs) {g : Nat} (hg : v.ownBlock = some g) : ∃ cs, w.heap[g]? = some (.cells cs T (0, 0)) := by
  obtain ⟨_, ⟨rfl, _⟩ | ⟨g', cap, cur, rfl, _, a3, _⟩⟩ := h
  · cases hg
  · simp [Value.ownBlock] at hg
    subst hg
    exact ⟨cur, a3⟩
theorem rowS {w : World} {base : Nat} {T : TypeId} {z n : Nat} {v : Value} {xs : List Value} (h : w.ownsRow base T z v n xs) : ∃ a c, v = .slice a n c := by
  obtain ⟨_, ⟨rfl, rfl⟩ | ⟨g', cap, cur, rfl, _⟩⟩ := h
  · exact ⟨_, _, rfl⟩
  · exact ⟨_, _, rfl⟩

/-- A list of ids of one's own. -/
abbrev OI (w : World) (base : Nat) (v : Value) (l : List Int) : Prop := w.ownsRow base 2 1 v l.length (l.map (Value.int .i64))

/-- One more id behind a list of one's own. -/
theorem app_i {w : World} {base m : Nat} {v : Value} {l : List Int} {x : Int} (ho : OI w base v l) (hm : w.heap[m]? = some (.cells #[.int .i64 x] 2 (0, 0))) (hl : l.length ≤ 2000000000) (hb : base ≤ w.heap.size) :
    ∃ v' w', (∀ ty, (Builtin.append_ #[42, 42] ty #[v, .slice (some ⟨m, 0, none⟩) 1 1]).run Tryz.prog w = .ok v' w') ∧ OI w' base v' (l ++ [x]) ∧ Kept w w' (fun k => v.ownBlock = some k) ∧ NewRow w v v' := by
  obtain ⟨i, hi, hz, hs, hby⟩ := infoX Tryz.infoId
  obtain ⟨v', w', h1, h2, h3, h4⟩ := app_row (P := Tryz.prog) base 42 42 2 i _ 1 8 Tryz.underlying42 hi hz hs hby rfl (by decide) v l.length (l.map (Value.int .i64)) ho m [.int .i64 x] rfl hm (by simp [Value.oneCell']) hl (by decide) hb
  refine ⟨v', w', fun ty => h1, ?_, ⟨h3.os, h3.tape, h3.output, h3.size, fun k hk hn => h3.block k hk (fun e => hn e.symm)⟩, ?_⟩
  · unfold OI
    rw [List.length_append, List.map_append]
    exact h2
  · rcases h4 with ⟨g, cap, rfl, rfl⟩ | ⟨h4, _⟩
    · exact .inl rfl
    · exact .inr ⟨_, h4, Nat.le_refl _⟩

abbrev srt (l : List Int) : List Int := l.mergeSort fun x y => decide (x ≤ y)

/-- slices.Sort of a list of one's own. -/
theorem sort_i {w : World} {base : Nat} {v : Value} {l : List Int} (ho : OI w base v l) (hl : l.length ≤ 2000000000) :
    Calls Tryz.prog 29 #[v] w fun e w' => e = .returned (.tuple #[]) ∧ OI w' base v (srt l) ∧ Kept w w' (fun k => v.ownBlock = some k) := by
  obtain ⟨hl0, ⟨rfl, h0⟩ | ⟨g, cap, cur, rfl, a2, a3, a4, a5, a6, a7⟩⟩ := ho
  · have hn : l = [] := List.length_eq_zero_iff.1 h0
    subst hn
    refine (AnyM.slices_Sort_int_none Tryz.sortI none 0 w).mono (fun e w' hh => ?_)
    obtain ⟨rfl, rfl⟩ := hh
    refine ⟨rfl, ?_, Kept.refl _ _⟩
    rw [show srt [] = [] by simp [srt]]
    exact World.ownsRow_nil _ _ _ _
  · refine (AnyM.slices_Sort_int Tryz.sortI g 0 cap l w (holds_of_blockI a3 (by simpa using a7)) (lt_of_block a3) (by omega)).mono (fun e w' hh => ?_)
    obtain ⟨rfl, n, os, rfl⟩ := hh
    refine ⟨rfl, ?_, ?_⟩
    · have := ownsRow_sortedI (ss := l) (ts := srt l) (n := n) (os := os) (base := base) (by simp) a2 a3 a4 a5 a6
      unfold OI
      rwa [show (srt l).length = l.length by simp]
    · have := grownBy_sortedI (w := w) (g := g) (n := n) (os := os) (srt l).toArray
      exact ⟨this.os, this.tape, this.output, this.size, fun k hk hn => this.block k hk (fun e => hn (by simp [Value.ownBlock]; exact (Option.some.inj e).symm))⟩

theorem srt_perm {l l' : List Int} (h : l.Perm l') : srt l = srt l' :=
  List.Perm.eq_of_pairwise (le := fun a b => a ≤ b) (fun a b _ _ h1 h2 => Int.le_antisymm h1 h2)
    ((List.pairwise_mergeSort (le := fun x y => decide (x ≤ y)) (fun a b c h1 h2 => by simp at *; omega) (fun a b => by simp; omega) l).imp (fun h => by simpa using h))
    ((List.pairwise_mergeSort (le := fun x y => decide (x ≤ y)) (fun a b c h1 h2 => by simp at *; omega) (fun a b => by simp; omega) l').imp (fun h => by simpa using h))
    ((List.mergeSort_perm l _).trans (h.trans (List.mergeSort_perm l' _).symm))

end Go.Proofs.YtmniefmjdfdedaaGreatDoor
