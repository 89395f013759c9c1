/- slices.Insert and slices.Delete of one pointer at a disk's row of files. -/
import Derived.Test.YtbdokdhconhifaaGreatDoorDkEJ
import Derived.Test.YtbdokdhconhifaaGreatDoorBgBJ
import Derived.Shelf.Spec.SlicesInsertGrow
import Derived.Lib.SlFresh
import Derived.Lib.AppendZerosOnto
namespace Go.Proofs.YtbdokdhconhifaaGreatDoor
open Go.RowKit Go.Shelf
set_option maxRecDepth 8000

theorem Tryz.infoPf : (Tryz.prog.info? 90).map (fun i => (i.zero, i.size, i.bytes)) = some (some (.pointer none), 1, 8) := by kernel_rfl

/-- What an insert gives. -/
structure InsTo (w : World) (fv : Value) (n : Nat) (cs : List Value) (w' : World) (v' : Value) : Prop where
  own : w'.ownsRow 0 90 1 v' n cs
  kept : Kept w w' (fun k => fv.ownBlock = some k)
  blk : ∀ k, v'.ownBlock = some k → fv.ownBlock = some k ∨ w.heap.size ≤ k

theorem ownBlk_new {w w' : World} {v v' : Value} {n : Nat} {cs : List Value} (hg : w.grownBy w' v.ownBlock) (ho : w'.ownsRow 0 90 1 v' n cs) (h : (∀ k, v'.ownBlock = some k → v.ownBlock = some k ∨ w.heap.size ≤ k)) : InsTo w v n cs w' v' :=
  ⟨ho, ⟨hg.os, hg.tape, hg.output, hg.size, fun k hk hn => hg.block k hk (fun e => hn e.symm)⟩, h⟩

set_option maxHeartbeats 1000000 in
/-- Behind the end. -/
theorem insert_end {w : World} {fv : Value} {n : Nat} {cs : List Value} (hown : w.ownsRow 0 90 1 fv n cs) (x : Value) (hx1 : x.oneCell' = true) (vb : Nat) (hvb : w.heap[vb]? = some (.cells #[x] 90 (0, 0))) (hn : n ≤ 64) :
    Calls Tryz.prog 104 #[fv, .int .i64 n, .slice (some ⟨vb, 0, none⟩) 1 1] w fun e w' => ∃ v', e = .returned v' ∧ InsTo w fv (n + 1) (cs ++ [x]) w' v' := by
  obtain ⟨i, hi, hz, hs, hb⟩ := info_parts Tryz.infoPf
  obtain ⟨v', w', hr, ho, hg, hnn⟩ := app_row (P := Tryz.prog) 0 72 72 90 i (.pointer none) 1 8 Tryz.underlying72 hi hz hs hb rfl (by decide) fv n cs hown vb [x] rfl hvb (by simpa using hx1) (by omega) (by omega) (Nat.zero_le _)
  have HR : Hid (InsTo w fv (n + 1) (cs ++ [x]) w' v') := ownBlk_new hg ho (fun k e => by
    rcases hnn with ⟨g, cap, rfl, rfl⟩ | ⟨e2, _⟩
    · exact .inl e
    · rw [e2] at e; cases e; exact .inr (Nat.le_refl _))
  obtain ⟨fa, fc, hfv, hc1, hc2⟩ : ∃ fa fc, fv = .slice fa n fc ∧ n ≤ fc ∧ fc ≤ maxLen := by
    obtain ⟨_, ⟨rfl, h0⟩ | ⟨g, cap, cur, rfl, _, _, h4, h5, _⟩⟩ := hown
    · exact ⟨none, 0, by rw [h0], by omega, by unfold maxLen; omega⟩
    · exact ⟨_, _, rfl, h4, h5⟩
  have hsh : fa = none → n = 0 ∧ fc = 0 := by
    rintro rfl
    obtain ⟨_, ⟨e, h0⟩ | ⟨g, cap, cur, e, _⟩⟩ := hown
    · rw [hfv] at e; simp at e; exact ⟨h0, e.2⟩
    · rw [hfv] at e; cases e
  have hss : ∀ a, fa = some a → ∃ g, a = ⟨g, 0, none⟩ := by
    rintro a rfl
    obtain ⟨_, ⟨e, h0⟩ | ⟨g, cap, cur, e, _⟩⟩ := hown
    · rw [hfv] at e; cases e
    · rw [hfv] at e; simp at e; exact ⟨g, e.1⟩
  subst hfv
  unfold maxLen at hc2
  clear hown hg ho hnn hi hz hs hb
  cases fa with
  | none =>
    obtain ⟨rfl, rfl⟩ := hsh rfl
    clear hsh hss
    go_enter Tryz.func104, Tryz.ntmps104
    go_wp2_with (at_builtin; refine Lib.wpList_append_run_sl _ rfl _ _ 72 rfl _ _ rfl rfl hr ?_)
    all_goals (go_ret; exact ⟨_, rfl, HR.out⟩)
  | some a =>
    obtain ⟨g, rfl⟩ := hss a rfl
    clear hsh hss
    by_cases hfn : fc = n
    · subst hfn
      go_enter Tryz.func104, Tryz.ntmps104
      go_wp2_with (at_builtin; refine Lib.wpList_append_run_sl _ rfl _ _ 72 rfl _ _ rfl rfl hr ?_)
      all_goals (go_ret; exact ⟨_, rfl, HR.out⟩)
    · go_enter Tryz.func104, Tryz.ntmps104
      go_wp2_with (at_builtin; refine Lib.wpList_append_run_sl _ rfl _ _ 72 rfl _ _ rfl rfl hr ?_)
      all_goals (go_ret; exact ⟨_, rfl, HR.out⟩)

set_option maxHeartbeats 4000000 in
/-- In the row's own room. -/
theorem insert_shift {w : World} {g n cap i : Nat} {cur : Array Value} (hg : w.heap[g]? = some (.cells cur 90 (0, 0))) (hsz : cur.size = cap) (hroom : n + 1 ≤ cap) (hcm : cap ≤ 9223372036854775807) (h1 : ∀ u ∈ cur.toList.take n, u.oneCell' = true) (x : Value) (hx1 : x.oneCell' = true) (vb : Nat) (hvb : w.heap[vb]? = some (.cells #[x] 90 (0, 0))) (hne : vb ≠ g) (hi : i < n) (hn : n ≤ 64) :
    Calls Tryz.prog 104 #[.slice (some ⟨g, 0, none⟩) n cap, .int .i64 i, .slice (some ⟨vb, 0, none⟩) 1 1] w fun e w' => e = .returned (.slice (some ⟨g, 0, none⟩) (n + 1) cap) ∧ InsTo w (.slice (some ⟨g, 0, none⟩) n cap) (n + 1) ((cur.toList.take n).take i ++ x :: (cur.toList.take n).drop i) w' (.slice (some ⟨g, 0, none⟩) (n + 1) cap) := by
  obtain ⟨i0, hi0, hz0, hzs, hzb⟩ := info_parts Tryz.infoPf
  have hs1 : (Tryz.prog.info? 90).map (·.size) = some 1 := by rw [hi0]; simp [hzs]
  have hov : ∀ lb cb, (callFunc 107 #[.slice (some ⟨vb, 0, none⟩) 1 1, .slice (some ⟨g, i + 1, none⟩) lb cb]).run Tryz.prog w = .ok (.value (.bool false)) w := fun lb cb => by
    rw [run_callFunc_extern Tryz.func107 (by kernel_rfl) (by kernel_rfl) (by kernel_rfl) (e := Extern.SlicesOverlaps.overlaps #[72, 72] #[4]) (by kernel_rfl),
      Lib.run_overlaps_apart w 72 4 90 Tryz.underlying72 1 Tryz.sizeOf90 ⟨vb, 0, none⟩ ⟨g, i + 1, none⟩ 1 1 lb cb hne 90 90 1 cap (by simp [World.shape?, hvb]) (by simp [World.shape?, hg, hsz]) (by omega) (frozen_of_row w vb 0 _ _ hvb) (frozen_of_row w vb 1 _ _ hvb)]
    rfl
  obtain ⟨cs1, hcs1⟩ : ∃ cs1, cs1 = (cur.toList.drop i).take (n - i) := ⟨_, rfl⟩
  have hl1 : cs1.length = n - i := by rw [hcs1]; simp; omega
  have ho1 : ∀ u ∈ cs1, u.oneCell' = true := fun u hu => h1 u (by
    rw [hcs1] at hu
    rw [List.mem_iff_getElem?] at hu ⊢
    obtain ⟨j, hj⟩ := hu
    rw [List.getElem?_take] at hj
    split at hj
    · exact ⟨i + j, by rw [List.getElem?_take, if_pos (by omega)]; rwa [List.getElem?_drop] at hj⟩
    · cases hj)
  have hcp1 : ∀ ty dl dc sl sc, dl = n - i → sl = n + 1 - i → (Builtin.copy_ #[72, 72] ty #[.slice (some ⟨g, i + 1, none⟩) dl dc, .slice (some ⟨g, i, none⟩) sl sc]).run Tryz.prog w.drew = .ok (goInt cs1.length) (w.drew.setRow g (cur.toList.take (i + 1) ++ cs1 ++ cur.toList.drop (i + 1 + cs1.length)).toArray) := fun ty dl dc sl sc e1 e2 => by
    subst e1 e2
    exact run_copy_row (P := Tryz.prog) w.drew _ _ ty 90 g (i + 1) (n - i) dc ⟨g, i, none⟩ (n + 1 - i) sc cur 90 cs1 Tryz.underlying72 hs1 hg (by rw [hl1]; simp only [Nat.min_def]; split <;> omega)
      (fun j v hj => by
        rw [Addr.add_lit, cell_of_row w.drew g (i + j) _ _ _ hg, ← Array.getElem?_toList]
        rw [hcs1, List.getElem?_take] at hj
        split at hj
        · rwa [List.getElem?_drop] at hj
        · cases hj) (by rw [hl1, hsz]; omega) ho1
  obtain ⟨R1, hR1⟩ : ∃ R1, R1 = cur.toList.take (i + 1) ++ cs1 ++ cur.toList.drop (i + 1 + cs1.length) := ⟨_, rfl⟩
  rw [← hR1] at hcp1
  have hlc : cur.toList.length = cap := by simpa using hsz
  have hR1l : R1.length = cap := by rw [hR1]; simp [hl1]; omega
  obtain ⟨W1, hW1⟩ : ∃ W1, W1 = w.drew.setRow g R1.toArray := ⟨_, rfl⟩
  rw [← hW1] at hcp1
  have hgW : W1.heap[g]? = some (.cells R1.toArray 90 (0, 0)) := by rw [hW1]; exact setRow_heap w.drew g cur _ _ _ hg
  have hvW : W1.heap[vb]? = some (.cells #[x] 90 (0, 0)) := by rw [hW1, setRow_other _ _ _ _ hne]; exact hvb
  have hcp2 : ∀ ty dl dc, dl = n + 1 - i → (Builtin.copy_ #[72, 72] ty #[.slice (some ⟨g, i, none⟩) dl dc, .slice (some ⟨vb, 0, none⟩) 1 1]).run Tryz.prog W1 = .ok (goInt 1) (W1.setRow g (R1.take i ++ [x] ++ R1.drop (i + 1)).toArray) := fun ty dl dc e1 => by
    subst e1
    exact run_copy_row (P := Tryz.prog) W1 _ _ ty 90 g i (n + 1 - i) dc ⟨vb, 0, none⟩ 1 1 R1.toArray 90 [x] Tryz.underlying72 hs1 hgW (by simp only [Nat.min_def, List.length_singleton]; split <;> omega)
      (fun j v hj => by
        rw [Addr.add_lit, Nat.zero_add, cell_of_row W1 vb j _ _ _ hvW, ← Array.getElem?_toList]
        exact hj) (by simp; omega) (by simpa using hx1)
  have HR : Hid (InsTo w (.slice (some ⟨g, 0, none⟩) n cap) (n + 1) ((cur.toList.take n).take i ++ x :: (cur.toList.take n).drop i) (W1.setRow g (R1.take i ++ [x] ++ R1.drop (i + 1)).toArray) (.slice (some ⟨g, 0, none⟩) (n + 1) cap)) := by
    refine ⟨⟨?_, .inr ⟨g, cap, _, rfl, Nat.zero_le _, setRow_heap W1 g _ _ _ _ hgW, hroom, by unfold maxLen; omega, ?_, ?_⟩⟩, ?_, fun k e => .inl e⟩
    · simp; omega
    · simp [hR1l]; omega
    · have e1 : R1.take i = cur.toList.take i := by
        rw [hR1, List.append_assoc, List.take_append_of_le_length (by simp; omega), List.take_take]
        congr 1; omega
      have e2 : (R1.drop (i + 1)).take (n - i) = cs1 := by
        rw [hR1, List.append_assoc, List.drop_append_of_le_length (by simp; omega), List.drop_eq_nil_of_le (by simp; omega), List.nil_append, List.take_append_of_le_length (by omega), List.take_of_length_le (by omega)]
      have e3 : (cur.toList.take n).take i = cur.toList.take i := by rw [List.take_take]; congr 1; omega
      have e4 : (cur.toList.take n).drop i = cs1 := by rw [hcs1, List.drop_take]
      rw [e3, e4, e1, Nat.mul_one]
      simp only [List.append_assoc, List.singleton_append]
      rw [List.take_append, List.take_of_length_le (by simp; omega)]
      congr 1
      rw [show n + 1 - (cur.toList.take i).length = (n - i) + 1 by simp; omega, List.take_succ_cons, e2]
    · refine ⟨by rw [hW1]; rfl, by rw [hW1]; rfl, by rw [hW1]; rfl, by rw [hW1]; simp, fun k hk hn' => ?_⟩
      have hkg : k ≠ g := fun e => hn' (by rw [e]; rfl)
      rw [setRow_other _ _ _ _ hkg, hW1, setRow_other _ _ _ _ hkg]
      rfl
  obtain ⟨R2, hR2⟩ : ∃ R2, R2 = R1.take i ++ [x] ++ R1.drop (i + 1) := ⟨_, rfl⟩
  rw [← hR2] at HR
  rw [← hR2] at hcp2
  clear hR2
  have hin : i ≤ n := by omega
  have hb2 : ¬ (cap = i + 1) := by omega
  have hb4 : ¬ (cap = i) := by omega
  have hz2 : ¬ ((i : Int) = (n : Int)) := by omega
  have HW : Hid _ := hW1
  clear hR1 hgW hvW hlc hR1l hW1 ho1 hl1 hcs1 hi0 hz0 hzs hzb hs1 hvb h1 hg
  go_enter Tryz.func104, Tryz.ntmps104
  go_wp2_with (simp only [hov])
  have hw1 : IntKind.i64.wrap ((i : Int) + 1) = (i : Int) + 1 := by rw [IntKind.wrap_i64]; omega
  have hb1 : (0 : Int) ≤ (i : Int) + 1 := by omega
  have htn : ((i : Int) + 1).toNat = i + 1 := by omega
  have hb3 : (i : Int) ≤ (n : Int) + 1 := by omega
  have hb5 : (i : Int) + 1 ≤ (n : Int) + 1 := by omega
  have mixed : Tryz.prog.follows .mixedOrders = true := by kernel_rfl
  go_region_law_o (refine step_copy_runI rfl _ _ 72 72 rfl _ _ (by simp [Act.eval, Act.put]) (by simp [Act.eval, Act.put]) (hcp1 _ _ _ _ _ (by omega) (by omega)) ?_)
  go_wp2_with (at_builtin; refine wpList_copy_runI _ rfl _ _ 72 72 rfl _ _ rfl rfl (hcp2 _ _ _ (by omega)) ?_)
  go_ret
  exact ⟨rfl, HR.out⟩

set_option maxHeartbeats 4000000 in
/-- Into a new row. -/
theorem insert_grow {w : World} {g n cap i : Nat} {cur : Array Value} (hg : w.heap[g]? = some (.cells cur 90 (0, 0))) (hsz : cur.size = cap) (hnc : n ≤ cap) (hroom : cap < n + 1) (h1 : ∀ u ∈ cur.toList.take n, u.oneCell' = true) (x : Value) (hx1 : x.oneCell' = true) (vb : Nat) (hvb : w.heap[vb]? = some (.cells #[x] 90 (0, 0))) (hi : i < n) (hn : n ≤ 64) :
    Calls Tryz.prog 104 #[.slice (some ⟨g, 0, none⟩) n cap, .int .i64 i, .slice (some ⟨vb, 0, none⟩) 1 1] w fun e w' => ∃ v', e = .returned v' ∧ InsTo w (.slice (some ⟨g, 0, none⟩) n cap) (n + 1) ((cur.toList.take n).take i ++ x :: (cur.toList.take n).drop i) w' v' := by
  obtain ⟨i0, hi0, hz0, hzs, hzb⟩ := info_parts Tryz.infoPf
  have hs1 : (Tryz.prog.info? 90).map (·.size) = some 1 := by rw [hi0]; simp [hzs]
  have hgl := lt_of_block hg
  have hvl := lt_of_block hvb
  obtain rfl : cap = n := by omega
  have hlc : cur.toList.length = cap := by simpa using hsz
  have hkk : (cap : Int) + 1 - (i : Int) = ((cap + 1 - i : Nat) : Int) := by omega
  have hik : i + (cap + 1 - i) = cap + 1 := by omega
  have hold : (Builtin.firstCells i0.size i (.slice (some ⟨g, 0, none⟩) i cap)).run Tryz.prog w.drew = .ok (cur.toList.take i).toArray w.drew := by
    rw [hzs]
    exact run_firstCells_some w.drew 1 i ⟨g, 0, none⟩ i cap (cur.toList.take i) (by rw [List.length_take]; omega) (fun j v hj => by
      rw [Addr.add_lit, Nat.zero_add, cell_of_row w.drew g j _ _ _ hg, ← Array.getElem?_toList]
      rw [List.getElem?_take] at hj
      split at hj
      · exact hj
      · cases hj)
  obtain ⟨G, hG⟩ : ∃ G, G = grownCap w (cap + 1) cap 90 := ⟨_, rfl⟩
  obtain ⟨ROW, hROW⟩ : ∃ ROW : Array Value, ROW = (cur.toList.take i).toArray ++ Builtin.zeroCells (Value.pointer none).cells (cap + 1 - i) ++ Builtin.zeroCells (Value.pointer none).cells (G - (cap + 1)) := ⟨_, rfl⟩
  obtain ⟨W1, hW1⟩ : ∃ W1, W1 = w.drew.alloc (.cells ROW 90) := ⟨_, rfl⟩
  have hGn : cap + 1 ≤ G := by rw [hG]; exact grownCap_ge w _ _ _
  have hG63 : G ≤ 9223372036854775807 := by
    have := grownCap_le_maxLen w (cap + 1) cap 90 (by unfold maxLen; omega)
    rw [← hG] at this
    unfold maxLen at this
    omega
  have hrz : ∀ ty, (Builtin.append_ #[72, 3] ty #[.slice (some ⟨g, 0, none⟩) i cap, .int .i64 ((cap : Int) + 1 - (i : Int))]).run Tryz.prog w = .ok (.slice (some ⟨w.heap.size, 0, none⟩) (cap + 1) G) W1 := fun ty => by
    have h := Lib.run_append_grow_zeros (P := Tryz.prog) w 72 3 ty 90 i0 _ .i64 .i64 Tryz.underlying72 Tryz.underlying3 hi0 hz0 (some ⟨g, 0, none⟩) i cap (cur.toList.take i) hold (cap + 1 - i) (by omega) (by omega) (by omega) (by omega) (by rw [hzb]; omega) (by rw [hzb, hik]; exact growslice_fits hroom (by omega))
    rw [hik] at h
    rw [hkk, hW1, hROW, hG]
    exact h
  have hRl : ROW.size = G := by
    rw [hROW]
    simp [Builtin.zeroCells, Value.cells]
    omega
  have hRt : ROW.toList.take i = cur.toList.take i := by
    rw [hROW]
    simp only [Array.toList_append, List.append_assoc]
    rw [List.take_append_of_le_length (by simp; omega), List.take_of_length_le (by simp; omega)]
  have hNW : W1.heap[w.heap.size]? = some (.cells ROW 90 (0, 0)) := by rw [hW1]; exact heap_alloc_new w.drew _
  have hgW : W1.heap[g]? = some (.cells cur 90 (0, 0)) := by rw [hW1, Below.heap_alloc _ _ _ (by simpa using hgl)]; exact hg
  have hvW : W1.heap[vb]? = some (.cells #[x] 90 (0, 0)) := by rw [hW1, Below.heap_alloc _ _ _ (by simpa using hvl)]; exact hvb
  have hb1 : Below w.heap.size w W1 := by rw [hW1]; exact (below_drewN (Below.refl _ _) 1).alloc (by simp) _
  obtain ⟨R1, hR1⟩ : ∃ R1, R1 = ROW.toList.take i ++ [x] ++ ROW.toList.drop (i + 1) := ⟨_, rfl⟩
  obtain ⟨W2, hW2⟩ : ∃ W2, W2 = W1.setRow w.heap.size R1.toArray := ⟨_, rfl⟩
  have hcpA : ∀ ty dl dc, dl = cap + 1 - i → (Builtin.copy_ #[72, 72] ty #[.slice (some ⟨w.heap.size, i, none⟩) dl dc, .slice (some ⟨vb, 0, none⟩) 1 1]).run Tryz.prog W1 = .ok (goInt 1) W2 := fun ty dl dc e1 => by
    subst e1
    rw [hW2, hR1]
    exact run_copy_row (P := Tryz.prog) W1 _ _ ty 90 w.heap.size i (cap + 1 - i) dc ⟨vb, 0, none⟩ 1 1 ROW 90 [x] Tryz.underlying72 hs1 hNW (by simp only [Nat.min_def, List.length_singleton]; split <;> omega)
      (fun j v hj => by
        rw [Addr.add_lit, Nat.zero_add, cell_of_row W1 vb j _ _ _ hvW, ← Array.getElem?_toList]
        exact hj) (by simp; omega) (by simpa using hx1)
  have hNW2 : W2.heap[w.heap.size]? = some (.cells R1.toArray 90 (0, 0)) := by rw [hW2]; exact setRow_heap W1 w.heap.size ROW _ _ _ hNW
  have hgW2 : W2.heap[g]? = some (.cells cur 90 (0, 0)) := by rw [hW2, setRow_other _ _ _ _ (by omega)]; exact hgW
  have hR1l : R1.length = G := by rw [hR1]; simp; omega
  obtain ⟨R2, hR2⟩ : ∃ R2, R2 = R1.take (i + 1) ++ cur.toList.drop i ++ R1.drop (i + 1 + (cur.toList.drop i).length) := ⟨_, rfl⟩
  obtain ⟨W3, hW3⟩ : ∃ W3, W3 = W2.drew.setRow w.heap.size R2.toArray := ⟨_, rfl⟩
  have hcpB : ∀ ty dl dc sl sc, dl = cap - i → sl = cap - i → (Builtin.copy_ #[72, 72] ty #[.slice (some ⟨w.heap.size, i + 1, none⟩) dl dc, .slice (some ⟨g, i, none⟩) sl sc]).run Tryz.prog W2.drew = .ok (goInt (cur.toList.drop i).length) W3 := fun ty dl dc sl sc e1 e2 => by
    subst e1 e2
    rw [hW3, hR2]
    exact run_copy_row (P := Tryz.prog) W2.drew _ _ ty 90 w.heap.size (i + 1) (cap - i) dc ⟨g, i, none⟩ (cap - i) sc R1.toArray 90 (cur.toList.drop i) Tryz.underlying72 hs1 hNW2 (by rw [List.length_drop, hlc]; exact (Nat.min_self _).symm)
      (fun j v hj => by
        rw [Addr.add_lit, cell_of_row W2.drew g (i + j) _ _ _ hgW2, ← Array.getElem?_toList]
        rwa [List.getElem?_drop] at hj) (by rw [List.length_drop, hlc, List.size_toArray, hR1l]; omega) (fun v hv => h1 v (by rw [List.take_of_length_le (by omega)]; exact List.mem_of_mem_drop hv))
  have HR : Hid (InsTo w (.slice (some ⟨g, 0, none⟩) cap cap) (cap + 1) ((cur.toList.take cap).take i ++ x :: (cur.toList.take cap).drop i) W3 (.slice (some ⟨w.heap.size, 0, none⟩) (cap + 1) G)) := by
    have ec : cur.toList.take cap = cur.toList := List.take_of_length_le (by omega)
    have hd : (cur.toList.drop i).length = cap - i := by rw [List.length_drop, hlc]
    refine ⟨⟨?_, .inr ⟨w.heap.size, G, _, rfl, Nat.zero_le _, by rw [hW3]; exact setRow_heap W2.drew w.heap.size _ _ _ _ hNW2, hGn, by unfold maxLen; omega, ?_, ?_⟩⟩, ?_, fun k e => .inr ?_⟩
    · rw [ec]; simp; omega
    · rw [List.size_toArray, hR2]; simp [hR1l, hd]; omega
    · rw [ec, Nat.mul_one, hR2]
      have e1 : R1.take (i + 1) = cur.toList.take i ++ [x] := by
        rw [hR1, List.append_assoc, ← List.append_assoc, List.take_append_of_le_length (by simp; omega), hRt, List.take_of_length_le (by simp; omega)]
      rw [e1, List.append_assoc, List.append_assoc]
      rw [List.take_append, List.take_of_length_le (by simp; omega)]
      congr 1
      simp only [List.singleton_append]
      rw [show cap + 1 - (cur.toList.take i).length = (cap - i) + 1 by rw [List.length_take, hlc]; omega, List.take_succ_cons, List.take_append_of_le_length (by omega), List.take_of_length_le (by omega)]
    · have hk3 : Kept W2 W3 (fun k => k = w.heap.size) := ⟨by rw [hW3]; rfl, by rw [hW3]; rfl, by rw [hW3]; rfl, by rw [hW3]; simp, fun k _ hn => by rw [hW3, setRow_other _ _ _ _ hn]; rfl⟩
      have hk2 : Kept W1 W2 (fun k => k = w.heap.size) := ⟨by rw [hW2]; rfl, by rw [hW2]; rfl, by rw [hW2]; rfl, by rw [hW2]; simp, fun k _ hn => by rw [hW2, setRow_other _ _ _ _ hn]⟩
      exact (Below.kept hb1).trans' (hk2.trans' (U := fun k => k = w.heap.size) hk3 (fun k _ e => e) (fun k _ e => e)) (fun k hk e => by omega) (fun k hk e => by omega)
    · simp [Value.ownBlock] at e; omega
  have hin : i ≤ cap := by omega
  have hGi : ¬ (G = i) := by omega
  have hGim : ¬ (G = i + 1) := by omega
  have hci : ¬ (cap = i) := by omega
  have hz2 : ¬ ((i : Int) = (cap : Int)) := by omega
  have hw1 : IntKind.i64.wrap ((i : Int) + 1) = (i : Int) + 1 := by rw [IntKind.wrap_i64]; omega
  have hb1' : (0 : Int) ≤ (i : Int) + 1 := by omega
  have htn : ((i : Int) + 1).toNat = i + 1 := by omega
  have hb3 : (i : Int) ≤ (cap : Int) := by omega
  have hb5 : (i : Int) + 1 ≤ (cap : Int) + 1 := by omega
  have mixed : Tryz.prog.follows .mixedOrders = true := by kernel_rfl
  clear hR2 hW3 hNW2 hgW2 hR1l hR1 hW2 hb1 hvW hgW hNW hRt hRl hW1 hROW hG hold hkk hik hlc hi0 hz0 hzs hzb hs1 hvb h1 hg hgl hvl hsz
  go_enter Tryz.func104, Tryz.ntmps104
  go_wp2_with (first
    | (at_builtin; refine Lib.wpList_append_run _ rfl _ _ _ _ rfl _ _ rfl rfl _ _ (hrz _) ?_)
    | (at_builtin; refine wpList_copy_runI _ rfl _ _ 72 72 rfl _ _ rfl rfl (hcpA _ _ _ (by omega)) ?_))
  go_region_law_o (refine step_copy_runI rfl _ _ 72 72 rfl (.slice (some ⟨w.heap.size, i + 1, none⟩) (cap - i) (G - (i + 1))) (.slice (some ⟨g, i, none⟩) (cap - i) (cap - i)) (by simp [Act.eval, Act.put]) (by simp [Act.eval, Act.put]) (hcpB 3 _ (G - (i + 1)) _ (cap - i) rfl rfl) ?_)
  go_wp2
  go_ret
  exact ⟨_, rfl, HR.out⟩

/-- slices.Insert of one pointer. -/
theorem insert_any {w : World} {fv : Value} {n : Nat} {cs : List Value} (hown : w.ownsRow 0 90 1 fv n cs) (h1 : ∀ u ∈ cs, u.oneCell' = true) (x : Value) (hx1 : x.oneCell' = true) (vb : Nat) (hvb : w.heap[vb]? = some (.cells #[x] 90 (0, 0))) (hne : fv.ownBlock ≠ some vb) (i : Nat) (hi : i ≤ n) (hn : n ≤ 64) :
    Calls Tryz.prog 104 #[fv, .int .i64 i, .slice (some ⟨vb, 0, none⟩) 1 1] w fun e w' => ∃ v', e = .returned v' ∧ InsTo w fv (n + 1) (cs.take i ++ x :: cs.drop i) w' v' := by
  have hcl : cs.length = n := by have := hown.1; omega
  by_cases hin : i = n
  · subst hin
    have e : cs.take i ++ x :: cs.drop i = cs ++ [x] := by rw [List.take_of_length_le (by omega), List.drop_eq_nil_of_le (by omega)]
    rw [e]
    exact insert_end hown x hx1 vb hvb hn
  · obtain ⟨h0, ⟨rfl, e0⟩ | ⟨g, cap, cur, rfl, _, h3, h4, h5, h6, h7⟩⟩ := hown
    · omega
    · rw [Nat.mul_one] at h6 h7
      rw [← h7] at h1 ⊢
      by_cases hroom : n + 1 ≤ cap
      · refine (insert_shift h3 h6 hroom (by unfold maxLen at h5; omega) h1 x hx1 vb hvb (fun e => hne (by rw [e]; rfl)) (by omega) hn).mono ?_
        rintro e w' ⟨rfl, h⟩
        exact ⟨_, rfl, h⟩
      · exact insert_grow h3 h6 h4 (by omega) h1 x hx1 vb hvb (by omega) hn
end Go.Proofs.YtbdokdhconhifaaGreatDoor
