/- A board in memory; what watch.New, isNone answer; an append of a watch to a row of one's own. -/
import Derived.Test.YtkcapiblicfboaaGreatDoorBgAJ
namespace Go.Proofs.YtkcapiblicfboaaGreatDoor
open Go.RowKit Go.Shelf
set_option maxRecDepth 8000

def waFlat : List WaT → List Value
  | [] => []
  | x :: r => .int .i64 x.1 :: .int .i8 x.2.1 :: .string x.2.2 :: waFlat r
theorem waFlat_len : ∀ l : List WaT, (waFlat l).length = l.length * 3
  | [] => rfl
  | x :: r => by simp [waFlat, waFlat_len r]; omega
theorem waFlat_app : ∀ (l m : List WaT), waFlat (l ++ m) = waFlat l ++ waFlat m
  | [], _ => rfl
  | x :: r, m => by simp [waFlat, waFlat_app r m]
theorem waFlat_at : ∀ (l : List WaT) (i : Nat) (x : WaT), l[i]? = some x → (waFlat l)[i * 3]? = some (.int .i64 x.1) ∧ (waFlat l)[i * 3 + 1]? = some (.int .i8 x.2.1) ∧ (waFlat l)[i * 3 + 2]? = some (.string x.2.2)
  | y :: r, 0, x, h => by simp at h; subst h; exact ⟨rfl, rfl, rfl⟩
  | y :: r, i + 1, x, h => by
    have := waFlat_at r i x (by simpa using h)
    rw [show (i + 1) * 3 = i * 3 + 1 + 1 + 1 by omega]
    exact this
theorem waFlat_cell : ∀ (l : List WaT), ∀ u ∈ waFlat l, u.oneCell' = true
  | [], u, h => by simp [waFlat] at h
  | x :: r, u, h => by
    simp only [waFlat, List.mem_cons] at h
    rcases h with rfl | rfl | rfl | h
    · rfl
    · rfl
    · rfl
    · exact waFlat_cell r u h

/-- A list of watches in memory. -/
def SW (w : World) (v : Value) (l : List WaT) : Prop := ∃ ao cap, v = .slice ao l.length cap ∧ l.length ≤ cap ∧ (l ≠ [] → ∃ b off, ao = some ⟨b, off, none⟩ ∧ ∀ i x, l[i]? = some x → w.cell? ⟨b, off + i * 3, none⟩ = some (.int .i64 x.1) ∧ w.cell? ⟨b, off + i * 3 + 1, none⟩ = some (.int .i8 x.2.1) ∧ w.cell? ⟨b, off + i * 3 + 2, none⟩ = some (.string x.2.2))

theorem SW.kept {w w' : World} {S : Nat → Prop} {v : Value} {l : List WaT} (h : SW w v l) (hk : Kept w w' S) (hn : ∀ k, liveB v = some k → ¬ S k) : SW w' v l := by
  obtain ⟨ao, cap, rfl, h2, h3⟩ := h
  refine ⟨ao, cap, rfl, h2, fun hne => ?_⟩
  obtain ⟨b, off, rfl, h5⟩ := h3 hne
  have hnb : ¬ S b := hn b (live_at (fun e => hne (List.length_eq_zero_iff.1 e)))
  exact ⟨b, off, rfl, fun i x hx => ⟨hk.cell (h5 i x hx).1 hnb, hk.cell (h5 i x hx).2.1 hnb, hk.cell (h5 i x hx).2.2 hnb⟩⟩

theorem SW_owns {w : World} {base : Nat} {v : Value} {l : List WaT} (h : w.ownsRow base 57 3 v l.length (waFlat l)) : SW w v l := by
  obtain ⟨_, ⟨rfl, h0⟩ | ⟨g, cap, cur, rfl, _, a3, a4, _, _, a7⟩⟩ := h
  · have : l = [] := List.length_eq_zero_iff.1 h0
    subst this
    exact ⟨none, 0, rfl, Nat.le_refl _, fun hn => absurd rfl hn⟩
  · refine ⟨_, cap, rfl, a4, fun _ => ⟨g, 0, rfl, fun i x hx => ?_⟩⟩
    have hi : i < l.length := by
      rcases Nat.lt_or_ge i l.length with h' | h'
      · exact h'
      · rw [List.getElem?_eq_none h'] at hx; cases hx
    obtain ⟨e1, e2, e3⟩ := waFlat_at l i x hx
    rw [← a7, List.getElem?_take, if_pos (by omega)] at e1 e2 e3
    rw [Nat.zero_add]
    exact ⟨by rw [cell_of_row w g _ _ _ _ a3, ← Array.getElem?_toList]; exact e1, by rw [cell_of_row w g _ _ _ _ a3, ← Array.getElem?_toList]; exact e2, by rw [cell_of_row w g _ _ _ _ a3, ← Array.getElem?_toList]; exact e3⟩

theorem rowK {w w' : World} {S : Nat → Prop} {base : Nat} {T : TypeId} {z n : Nat} {v : Value} {xs : List Value} (h : w.ownsRow base T z v n xs) (hk : Kept w w' S) (hn : ∀ g, v.ownBlock = some g → ¬ S g) : w'.ownsRow base T z v n xs := by
  obtain ⟨h1, h2 | ⟨g, cap, cur, rfl, a2, a3, a4⟩⟩ := h
  · exact ⟨h1, .inl h2⟩
  · exact ⟨h1, .inr ⟨g, cap, cur, rfl, a2, hk.heap a3 (hn g rfl), a4⟩⟩
theorem rowT {w : World} {base : Nat} {T : TypeId} {z n : Nat} {v : Value} {xs : List Value} (h : w.ownsRow base T z v n xs) {g : Nat} (hg : v.ownBlock = some g) : ∃ cs, w.heap[g]? = some (.cells cs T (0, 0)) := by
  obtain ⟨_, ⟨rfl, _⟩ | ⟨g', cap, cur, rfl, _, a3, _⟩⟩ := h
  · cases hg
  · simp [Value.ownBlock] at hg
    subst hg
    exact ⟨cur, a3⟩
theorem rowS {w : World} {base : Nat} {T : TypeId} {z n : Nat} {v : Value} {xs : List Value} (h : w.ownsRow base T z v n xs) : ∃ a c, v = .slice a n c := by
  obtain ⟨_, ⟨rfl, rfl⟩ | ⟨g', cap, cur, rfl, _⟩⟩ := h
  · exact ⟨_, _, rfl⟩
  · exact ⟨_, _, rfl⟩

theorem Tryz.infoWa : (Tryz.prog.info? 57).map (fun i => (i.zero, i.size, i.bytes)) = some (some (.agg #[.int .i64 0, .int .i8 0, .string ⟨#[]⟩]), 3, 32) := by kernel_rfl
theorem infoX {T : TypeId} {z : Value} {s b : Nat} (h : (Tryz.prog.info? T).map (fun i => (i.zero, i.size, i.bytes)) = some (some z, s, b)) : ∃ i, Tryz.prog.info? T = some i ∧ i.zero = some z ∧ i.size = s ∧ i.bytes = b := by
  cases hh : Tryz.prog.info? T with
  | none => rw [hh] at h; simp at h
  | some i => rw [hh] at h; simp at h; exact ⟨i, rfl, h.1, h.2.1, h.2.2⟩

/-- One more watch behind a list of one's own. -/
theorem app_wa {w : World} {base m : Nat} {v : Value} {l : List WaT} {x : WaT} (ho : w.ownsRow base 57 3 v l.length (waFlat l)) (hm : w.heap[m]? = some (.cells (waCs x) 57 (0, 0))) (hl : l.length ≤ 2000000000) (hb : base ≤ w.heap.size) :
    ∃ v' w', (∀ ty, (Builtin.append_ #[64, 64] ty #[v, .slice (some ⟨m, 0, none⟩) 1 1]).run Tryz.prog w = .ok v' w') ∧ w'.ownsRow base 57 3 v' (l ++ [x]).length (waFlat (l ++ [x])) ∧ Kept w w' (fun k => v.ownBlock = some k) ∧ NewRow w v v' := by
  obtain ⟨i, hi, hz, hs, hby⟩ := infoX Tryz.infoWa
  obtain ⟨v', w', h1, h2, h3, h4⟩ := app_row (P := Tryz.prog) base 64 64 57 i _ 3 32 Tryz.underlying64 hi hz hs hby rfl (by decide) v l.length (waFlat l) ho m (waFlat [x]) rfl hm (waFlat_cell [x]) hl (by decide) hb
  refine ⟨v', w', fun ty => h1, ?_, ⟨h3.os, h3.tape, h3.output, h3.size, fun k hk hn => h3.block k hk (fun e => hn e.symm)⟩, ?_⟩
  · rw [List.length_append, waFlat_app]
    exact h2
  · rcases h4 with ⟨g, cap, rfl, rfl⟩ | ⟨h4, _⟩
    · exact .inl rfl
    · exact .inr ⟨_, h4, Nat.le_refl _⟩

/-- A board in memory: the watches of its order, the watches of its map. -/
structure Bo (w : World) (b m : Nat) (v : Value) (l l' : List WaT) : Prop where
  hb : w.heap[b]? = some (.cells #[v, .map (some m)] 80 (0, 0))
  hm : Mp w m l'
  ho : w.ownsRow 0 57 3 v l.length (waFlat l)
/-- The blocks of a board. -/
def Ft (b m : Nat) (v : Value) (k : Nat) : Prop := k = b ∨ k = m ∨ v.ownBlock = some k

theorem Bo.ne {w : World} {b m : Nat} {v : Value} {l l' : List WaT} (h : Bo w b m v l l') : b ≠ m ∧ v.ownBlock ≠ some b ∧ v.ownBlock ≠ some m := by
  obtain ⟨es, c, hm, _⟩ := h.hm
  refine ⟨fun e => ?_, fun e => ?_, fun e => ?_⟩
  · subst e; have := h.hb; rw [hm] at this; cases this
  · obtain ⟨cs, e'⟩ := rowT h.ho e; have := h.hb; rw [e'] at this; simp at this
  · obtain ⟨cs, e'⟩ := rowT h.ho e; rw [hm] at e'; cases e'
theorem Bo.kept {w w' : World} {S : Nat → Prop} {b m : Nat} {v : Value} {l l' : List WaT} (h : Bo w b m v l l') (hk : Kept w w' S) (hn : ∀ k, Ft b m v k → ¬ S k) : Bo w' b m v l l' :=
  ⟨hk.heap h.hb (hn b (.inl rfl)), h.hm.kept hk (hn m (.inr (.inl rfl))), rowK h.ho hk (fun g hg => hn g (.inr (.inr hg)))⟩
theorem Bo.below {w w' : World} {b m : Nat} {v : Value} {l l' : List WaT} (h : Bo w b m v l l') (hk : Below w.heap.size w w') : Bo w' b m v l l' := by
  refine h.kept (Below.kept hk) (fun k hf => ?_)
  rcases hf with rfl | rfl | hf
  · have := lt_of_block h.hb; omega
  · have := h.hm.lt; omega
  · have := (h.ho.lt k hf).2; omega
theorem Bo.drewN {w : World} {b m : Nat} {v : Value} {l l' : List WaT} (h : Bo w b m v l l') (n : Nat) : Bo (w.drewN n) b m v l l' := ⟨h.hb, h.hm, h.ho⟩
theorem Bo.c0 {w : World} {b m : Nat} {v : Value} {l l' : List WaT} (h : Bo w b m v l l') : w.cell? ⟨b, 0, none⟩ = some v := by rw [cell_of_row w b 0 _ _ _ h.hb]; rfl
theorem Bo.c1 {w : World} {b m : Nat} {v : Value} {l l' : List WaT} (h : Bo w b m v l l') : w.cell? ⟨b, 1, none⟩ = some (.map (some m)) := by rw [cell_of_row w b 1 _ _ _ h.hb]; rfl
theorem Bo.lt {w : World} {b m : Nat} {v : Value} {l l' : List WaT} (h : Bo w b m v l l') {k : Nat} (hk : Ft b m v k) : k < w.heap.size := by
  rcases hk with rfl | rfl | hk
  · exact lt_of_block h.hb
  · exact h.hm.lt
  · exact (h.ho.lt k hk).2
/-- The order's cell set. -/
theorem Bo.set {w : World} {b m : Nat} {v v' : Value} {l' l2 : List WaT} (hb : w.heap[b]? = some (.cells #[v, .map (some m)] 80 (0, 0))) (hm : Mp w m l') (ho : w.ownsRow 0 57 3 v' l2.length (waFlat l2)) : Bo (w.setCell ⟨b, 0, none⟩ v') b m v' l2 l' ∧ Kept w (w.setCell ⟨b, 0, none⟩ v') (fun k => k = b) := by
  have hks : Kept w (w.setCell ⟨b, 0, none⟩ v') (fun k => k = b) := (Kept.refl w _).setCell _ _ (fun _ => rfl)
  refine ⟨⟨?_, hm.kept hks (fun e => ?_), rowK ho hks (fun g hg e => ?_)⟩, hks⟩
  · rw [setCell_eq_setRow w b 0 _ _ _ _ hb, setRow_heap w b _ _ _ _ hb]; rfl
  · subst e; obtain ⟨es, c, hm, _⟩ := hm; rw [hm] at hb; cases hb
  · subst e; obtain ⟨cs, e'⟩ := rowT ho hg; rw [hb] at e'; simp at e'

theorem newB_any (w : World) : Calls Tryz.prog 6 #[] w fun e w' => e = .returned (.pointer (some ⟨w.heap.size + 1, 0, none⟩)) ∧ Bo w' (w.heap.size + 1) w.heap.size (.slice none 0 0) [] [] ∧ Below w.heap.size w w' := by
  have hmm := @run_makeMap Tryz.prog
  have HB : Hid (Bo ((w.alloc (.map #[] 0)).alloc (.cells #[.slice none 0 0, .map (some w.heap.size)] 80)) (w.heap.size + 1) w.heap.size (.slice none 0 0) [] [] ∧ Below w.heap.size w ((w.alloc (.map #[] 0)).alloc (.cells #[.slice none 0 0, .map (some w.heap.size)] 80))) := by
    refine ⟨⟨?_, ⟨#[], 0, ?_, rfl⟩, World.ownsRow_nil _ _ _ _⟩, ((Below.refl _ w).alloc (Nat.le_refl _) _).alloc (by simp) _⟩
    · have := heap_alloc_new (w.alloc (.map #[] 0)) (.cells #[.slice none 0 0, .map (some w.heap.size)] 80 (0, 0)); rwa [World.size_alloc] at this
    · rw [Below.heap_alloc _ _ _ (by simp)]; exact heap_alloc_new _ _
  go_enter Tryz.func6, Tryz.ntmps6
  go_wp2
  all_goals (go_ret; exact ⟨rfl, HB.out⟩)

theorem mapNil (r : Option Nat) (w : World) : (binOp .eql 78 (.map r) (.map none)).run Tryz.prog w = .ok (.bool r.isNone) w := by cases r <;> kernel_rfl

theorem isNone_no {w : World} {b m : Nat} {v : Value} {l l' : List WaT} (h : Bo w b m v l l') : Calls Tryz.prog 26 #[.pointer (some ⟨b, 0, none⟩)] w fun e w' => e = .returned (.bool false) ∧ w' = w := by
  have c1 := h.c1
  have hz := lt_of_block h.hb
  have hn : (binOp .eql 78 (.map (some m)) (.map none)).run Tryz.prog w = .ok (.bool false) w := mapNil _ w
  clear h
  go_enter Tryz.func26, Tryz.ntmps26
  go_wp2
  all_goals (go_ret; exact ⟨rfl, rfl⟩)

end Go.Proofs.YtkcapiblicfboaaGreatDoor
