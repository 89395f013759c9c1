/- slices.Insert of one function at a full row of functions. -/
import Derived.Test.YtkpdckpcnnmdkaaDkFJ
import Derived.Test.YtkpdckpcnnmdkaaMaQJ
namespace Go.Proofs.Ytkpdckpcnnmdkaa
open Go.RowKit Go.Shelf
set_option maxRecDepth 8000

theorem Try.infoFn : (Try.prog.info? 61).map (fun i => (i.zero, i.size, i.bytes)) = some (some .nilFunc, 1, 8) := by kernel_rfl

/-- What an insert gives. -/
structure FnsTo (w : World) (fv : Value) (n : Nat) (cs : List Value) (w' : World) (v' : Value) : Prop where
  own : w'.ownsRow 0 61 1 v' n cs
  kept : Kept w w' (fun k => fv.ownBlock = some k)
  blk : ∀ k, v'.ownBlock = some k → fv.ownBlock = some k ∨ w.heap.size ≤ k

theorem ownBlk_fn {w w' : World} {v v' : Value} {n : Nat} {cs : List Value} (hg : w.grownBy w' v.ownBlock) (ho : w'.ownsRow 0 61 1 v' n cs) (h : (∀ k, v'.ownBlock = some k → v.ownBlock = some k ∨ w.heap.size ≤ k)) : FnsTo w v n cs w' v' :=
  ⟨ho, ⟨hg.os, hg.tape, hg.output, hg.size, fun k hk hn => hg.block k hk (fun e => hn e.symm)⟩, h⟩

set_option maxHeartbeats 4000000 in
/-- Into a new row. -/
theorem insert_fn {w : World} {g n cap i : Nat} {cur : Array Value} (hg : w.heap[g]? = some (.cells cur 61 (0, 0))) (hsz : cur.size = cap) (hnc : n ≤ cap) (hroom : cap < n + 1) (h1 : ∀ u ∈ cur.toList.take n, u.oneCell' = true) (x : Value) (hx1 : x.oneCell' = true) (vb : Nat) (hvb : w.heap[vb]? = some (.cells #[x] 61 (0, 0))) (hi : i < n) (hn : n ≤ 64) :
    Calls Try.prog 46 #[.slice (some ⟨g, 0, none⟩) n cap, .int .i64 i, .slice (some ⟨vb, 0, none⟩) 1 1] w fun e w' => ∃ v', e = .returned v' ∧ FnsTo w (.slice (some ⟨g, 0, none⟩) n cap) (n + 1) ((cur.toList.take n).take i ++ x :: (cur.toList.take n).drop i) w' v' := by
  obtain ⟨i0, hi0, hz0, hzs, hzb⟩ := info_parts Try.infoFn
  have hs1 : (Try.prog.info? 61).map (·.size) = some 1 := by rw [hi0]; simp [hzs]
  have hgl := lt_of_block hg
  have hvl := lt_of_block hvb
  obtain rfl : cap = n := by omega
  have hlc : cur.toList.length = cap := by simpa using hsz
  have hkk : (cap : Int) + 1 - (i : Int) = ((cap + 1 - i : Nat) : Int) := by omega
  have hik : i + (cap + 1 - i) = cap + 1 := by omega
  have hold : (Builtin.firstCells i0.size i (.slice (some ⟨g, 0, none⟩) i cap)).run Try.prog w.drew = .ok (cur.toList.take i).toArray w.drew := by
    rw [hzs]
    exact run_firstCells_some w.drew 1 i ⟨g, 0, none⟩ i cap (cur.toList.take i) (by rw [List.length_take]; omega) (fun j v hj => by
      rw [Addr.add_lit, Nat.zero_add, cell_of_row w.drew g j _ _ _ hg, ← Array.getElem?_toList]
      rw [List.getElem?_take] at hj
      split at hj
      · exact hj
      · cases hj)
  obtain ⟨G, hG⟩ : ∃ G, G = grownCap w (cap + 1) cap 61 := ⟨_, rfl⟩
  obtain ⟨ROW, hROW⟩ : ∃ ROW : Array Value, ROW = (cur.toList.take i).toArray ++ Builtin.zeroCells Value.nilFunc.cells (cap + 1 - i) ++ Builtin.zeroCells Value.nilFunc.cells (G - (cap + 1)) := ⟨_, rfl⟩
  obtain ⟨W1, hW1⟩ : ∃ W1, W1 = w.drew.alloc (.cells ROW 61) := ⟨_, rfl⟩
  have hGn : cap + 1 ≤ G := by rw [hG]; exact grownCap_ge w _ _ _
  have hG63 : G ≤ 9223372036854775807 := by
    have := grownCap_le_maxLen w (cap + 1) cap 61 (by unfold maxLen; omega)
    rw [← hG] at this
    unfold maxLen at this
    omega
  have hrz : ∀ ty, (Builtin.append_ #[59, 3] ty #[.slice (some ⟨g, 0, none⟩) i cap, .int .i64 ((cap : Int) + 1 - (i : Int))]).run Try.prog w = .ok (.slice (some ⟨w.heap.size, 0, none⟩) (cap + 1) G) W1 := fun ty => by
    have h := Lib.run_append_grow_zeros (P := Try.prog) w 59 3 ty 61 i0 _ .i64 .i64 Try.underlying59 Try.underlying3 hi0 hz0 (some ⟨g, 0, none⟩) i cap (cur.toList.take i) hold (cap + 1 - i) (by omega) (by omega) (by omega) (by omega) (by rw [hzb]; omega) (by rw [hzb, hik]; exact growslice_fits hroom (by omega))
    rw [hik] at h
    rw [hkk, hW1, hROW, hG]
    exact h
  have hRl : ROW.size = G := by
    rw [hROW]
    simp [Builtin.zeroCells, Value.cells]
    omega
  have hRt : ROW.toList.take i = cur.toList.take i := by
    rw [hROW]
    simp only [Array.toList_append, List.append_assoc]
    rw [List.take_append_of_le_length (by simp; omega), List.take_of_length_le (by simp; omega)]
  have hNW : W1.heap[w.heap.size]? = some (.cells ROW 61 (0, 0)) := by rw [hW1]; exact heap_alloc_new w.drew _
  have hgW : W1.heap[g]? = some (.cells cur 61 (0, 0)) := by rw [hW1, Below.heap_alloc _ _ _ (by simpa using hgl)]; exact hg
  have hvW : W1.heap[vb]? = some (.cells #[x] 61 (0, 0)) := by rw [hW1, Below.heap_alloc _ _ _ (by simpa using hvl)]; exact hvb
  have hb1 : Below w.heap.size w W1 := by rw [hW1]; exact (below_drewN (Below.refl _ _) 1).alloc (by simp) _
  obtain ⟨R1, hR1⟩ : ∃ R1, R1 = ROW.toList.take i ++ [x] ++ ROW.toList.drop (i + 1) := ⟨_, rfl⟩
  obtain ⟨W2, hW2⟩ : ∃ W2, W2 = W1.setRow w.heap.size R1.toArray := ⟨_, rfl⟩
  have hcpA : ∀ ty dl dc, dl = cap + 1 - i → (Builtin.copy_ #[59, 59] ty #[.slice (some ⟨w.heap.size, i, none⟩) dl dc, .slice (some ⟨vb, 0, none⟩) 1 1]).run Try.prog W1 = .ok (goInt 1) W2 := fun ty dl dc e1 => by
    subst e1
    rw [hW2, hR1]
    exact run_copy_row (P := Try.prog) W1 _ _ ty 61 w.heap.size i (cap + 1 - i) dc ⟨vb, 0, none⟩ 1 1 ROW 61 [x] Try.underlying59 hs1 hNW (by simp only [Nat.min_def, List.length_singleton]; split <;> omega)
      (fun j v hj => by
        rw [Addr.add_lit, Nat.zero_add, cell_of_row W1 vb j _ _ _ hvW, ← Array.getElem?_toList]
        exact hj) (by simp; omega) (by simpa using hx1)
  have hNW2 : W2.heap[w.heap.size]? = some (.cells R1.toArray 61 (0, 0)) := by rw [hW2]; exact setRow_heap W1 w.heap.size ROW _ _ _ hNW
  have hgW2 : W2.heap[g]? = some (.cells cur 61 (0, 0)) := by rw [hW2, setRow_other _ _ _ _ (by omega)]; exact hgW
  have hR1l : R1.length = G := by rw [hR1]; simp; omega
  obtain ⟨R2, hR2⟩ : ∃ R2, R2 = R1.take (i + 1) ++ cur.toList.drop i ++ R1.drop (i + 1 + (cur.toList.drop i).length) := ⟨_, rfl⟩
  obtain ⟨W3, hW3⟩ : ∃ W3, W3 = W2.drew.setRow w.heap.size R2.toArray := ⟨_, rfl⟩
  have hcpB : ∀ ty dl dc sl sc, dl = cap - i → sl = cap - i → (Builtin.copy_ #[59, 59] ty #[.slice (some ⟨w.heap.size, i + 1, none⟩) dl dc, .slice (some ⟨g, i, none⟩) sl sc]).run Try.prog W2.drew = .ok (goInt (cur.toList.drop i).length) W3 := fun ty dl dc sl sc e1 e2 => by
    subst e1 e2
    rw [hW3, hR2]
    exact run_copy_row (P := Try.prog) W2.drew _ _ ty 61 w.heap.size (i + 1) (cap - i) dc ⟨g, i, none⟩ (cap - i) sc R1.toArray 61 (cur.toList.drop i) Try.underlying59 hs1 hNW2 (by rw [List.length_drop, hlc]; exact (Nat.min_self _).symm)
      (fun j v hj => by
        rw [Addr.add_lit, cell_of_row W2.drew g (i + j) _ _ _ hgW2, ← Array.getElem?_toList]
        rwa [List.getElem?_drop] at hj) (by rw [List.length_drop, hlc, List.size_toArray, hR1l]; omega) (fun v hv => h1 v (by rw [List.take_of_length_le (by omega)]; exact List.mem_of_mem_drop hv))
  have HR : Hid (FnsTo w (.slice (some ⟨g, 0, none⟩) cap cap) (cap + 1) ((cur.toList.take cap).take i ++ x :: (cur.toList.take cap).drop i) W3 (.slice (some ⟨w.heap.size, 0, none⟩) (cap + 1) G)) := by
    have ec : cur.toList.take cap = cur.toList := List.take_of_length_le (by omega)
    have hd : (cur.toList.drop i).length = cap - i := by rw [List.length_drop, hlc]
    refine ⟨⟨?_, .inr ⟨w.heap.size, G, _, rfl, Nat.zero_le _, by rw [hW3]; exact setRow_heap W2.drew w.heap.size _ _ _ _ hNW2, hGn, by unfold maxLen; omega, ?_, ?_⟩⟩, ?_, fun k e => .inr ?_⟩
    · rw [ec]; simp; omega
    · rw [List.size_toArray, hR2]; simp [hR1l, hd]; omega
    · rw [ec, Nat.mul_one, hR2]
      have e1 : R1.take (i + 1) = cur.toList.take i ++ [x] := by
        rw [hR1, List.append_assoc, ← List.append_assoc, List.take_append_of_le_length (by simp; omega), hRt, List.take_of_length_le (by simp; omega)]
      rw [e1, List.append_assoc, List.append_assoc]
      rw [List.take_append, List.take_of_length_le (by simp; omega)]
      congr 1
      simp only [List.singleton_append]
      rw [show cap + 1 - (cur.toList.take i).length = (cap - i) + 1 by rw [List.length_take, hlc]; omega, List.take_succ_cons, List.take_append_of_le_length (by omega), List.take_of_length_le (by omega)]
    · have hk3 : Kept W2 W3 (fun k => k = w.heap.size) := ⟨by rw [hW3]; rfl, by rw [hW3]; rfl, by rw [hW3]; rfl, by rw [hW3]; simp, fun k _ hn => by rw [hW3, setRow_other _ _ _ _ hn]; rfl⟩
      have hk2 : Kept W1 W2 (fun k => k = w.heap.size) := ⟨by rw [hW2]; rfl, by rw [hW2]; rfl, by rw [hW2]; rfl, by rw [hW2]; simp, fun k _ hn => by rw [hW2, setRow_other _ _ _ _ hn]⟩
      exact (Below.kept hb1).trans' (hk2.trans' (U := fun k => k = w.heap.size) hk3 (fun k _ e => e) (fun k _ e => e)) (fun k hk e => by omega) (fun k hk e => by omega)
    · simp [Value.ownBlock] at e; omega
  have hin : i ≤ cap := by omega
  have hGi : ¬ (G = i) := by omega
  have hGim : ¬ (G = i + 1) := by omega
  have hci : ¬ (cap = i) := by omega
  have hz2 : ¬ ((i : Int) = (cap : Int)) := by omega
  have hw1 : IntKind.i64.wrap ((i : Int) + 1) = (i : Int) + 1 := by rw [IntKind.wrap_i64]; omega
  have hb1' : (0 : Int) ≤ (i : Int) + 1 := by omega
  have htn : ((i : Int) + 1).toNat = i + 1 := by omega
  have hb3 : (i : Int) ≤ (cap : Int) := by omega
  have hb5 : (i : Int) + 1 ≤ (cap : Int) + 1 := by omega
  have mixed : Try.prog.follows .mixedOrders = true := by kernel_rfl
  clear hR2 hW3 hNW2 hgW2 hR1l hR1 hW2 hb1 hvW hgW hNW hRt hRl hW1 hROW hG hold hkk hik hlc hi0 hz0 hzs hzb hs1 hvb h1 hg hgl hvl hsz
  go_enter Try.func46, Try.ntmps46
  go_wp2_with (first
    | (at_builtin; refine Lib.wpList_append_run _ rfl _ _ _ _ rfl _ _ rfl rfl _ _ (hrz _) ?_)
    | (at_builtin; refine wpList_copy_runI _ rfl _ _ 59 59 rfl _ _ rfl rfl (hcpA _ _ _ (by omega)) ?_))
  go_region_law_o (refine step_copy_runI rfl _ _ 59 59 rfl (.slice (some ⟨w.heap.size, i + 1, none⟩) (cap - i) (G - (i + 1))) (.slice (some ⟨g, i, none⟩) (cap - i) (cap - i)) (by simp [Act.eval, Act.put]) (by simp [Act.eval, Act.put]) (hcpB 3 _ (G - (i + 1)) _ (cap - i) rfl rfl) ?_)
  go_wp2
  go_ret
  exact ⟨_, rfl, HR.out⟩

end Go.Proofs.Ytkpdckpcnnmdkaa
