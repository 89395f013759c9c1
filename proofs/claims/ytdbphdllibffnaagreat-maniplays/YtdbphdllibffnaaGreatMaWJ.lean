/- ManiFirst, walked. -/
import Derived.Test.YtdbphdllibffnaaGreatMaMJ
import Derived.Test.YtdbphdllibffnaaGreatMaAJ
import Derived.Test.YtdbphdllibffnaaGreatDkFJ
namespace Go.Proofs.YtdbphdllibffnaaGreat
open Go.RowKit Go.Shelf
set_option maxRecDepth 8000

end Go.Proofs.YtdbphdllibffnaaGreat

/- ManiNone, walked. -/
namespace Go.Proofs.YtdbphdllibffnaaGreat
open Go.RowKit Go.Shelf
set_option maxRecDepth 8000

end Go.Proofs.YtdbphdllibffnaaGreat

/- manifest: bytes of which one is another one, that are cut or with one more; an append of one byte to a copy. No Go function is walked here. -/
namespace Go.Proofs.YtdbphdllibffnaaGreat
open Go.RowKit Go.Shelf
set_option maxRecDepth 8000

end Go.Proofs.YtdbphdllibffnaaGreat

/- slices.Insert of one function at a full row of functions. -/
namespace Go.Proofs.YtdbphdllibffnaaGreat
open Go.RowKit Go.Shelf
set_option maxRecDepth 8000

theorem Tryz.infoFn : (Tryz.prog.info? 81).map (fun i => (i.zero, i.size, i.bytes)) = some (some .nilFunc, 1, 8) := by kernel_rfl

/-- What an insert gives. -/
structure FnsTo (w : World) (fv : Value) (n : Nat) (cs : List Value) (w' : World) (v' : Value) : Prop where
  own : w'.ownsRow 0 81 1 v' n cs
  kept : Kept w w' (fun k => fv.ownBlock = some k)
  blk : ∀ k, v'.ownBlock = some k → fv.ownBlock = some k ∨ w.heap.size ≤ k

set_option maxHeartbeats 4000000 in
/-- Into a new row. -/
theorem insert_fn {w : World} {g n cap i : Nat} {cur : Array Value} (hg : w.heap[g]? = some (.cells cur 81 (0, 0))) (hsz : cur.size = cap) (hnc : n ≤ cap) (hroom : cap < n + 1) (h1 : ∀ u ∈ cur.toList.take n, u.oneCell' = true) (x : Value) (hx1 : x.oneCell' = true) (vb : Nat) (hvb : w.heap[vb]? = some (.cells #[x] 81 (0, 0))) (hi : i < n) (hn : n ≤ 64) :
    Calls Tryz.prog 98 #[.slice (some ⟨g, 0, none⟩) n cap, .int .i64 i, .slice (some ⟨vb, 0, none⟩) 1 1] w fun e w' => ∃ v', e = .returned v' ∧ FnsTo w (.slice (some ⟨g, 0, none⟩) n cap) (n + 1) ((cur.toList.take n).take i ++ x :: (cur.toList.take n).drop i) w' v' := by
  obtain ⟨i0, hi0, hz0, hzs, hzb⟩ := info_parts Tryz.infoFn
  have hs1 : (Tryz.prog.info? 81).map (·.size) = some 1 := by rw [hi0]; simp [hzs]
  have hgl := lt_of_block hg
  have hvl := lt_of_block hvb
  obtain rfl : cap = n := by omega
  have hlc : cur.toList.length = cap := by simpa using hsz
  have hkk : (cap : Int) + 1 - (i : Int) = ((cap + 1 - i : Nat) : Int) := by omega
  have hik : i + (cap + 1 - i) = cap + 1 := by omega
  have hold : (Builtin.firstCells i0.size i (.slice (some ⟨g, 0, none⟩) i cap)).run Tryz.prog w.drew = .ok (cur.toList.take i).toArray w.drew := by
    rw [hzs]
    exact run_firstCells_some w.drew 1 i ⟨g, 0, none⟩ i cap (cur.toList.take i) (by rw [List.length_take]; omega) (fun j v hj => by
      rw [Addr.add_lit, Nat.zero_add, cell_of_row w.drew g j _ _ _ hg, ← Array.getElem?_toList]
      rw [List.getElem?_take] at hj
      split at hj
      · exact hj
      · cases hj)
  obtain ⟨G, hG⟩ : ∃ G, G = grownCap w (cap + 1) cap 81 := ⟨_, rfl⟩
  obtain ⟨ROW, hROW⟩ : ∃ ROW : Array Value, ROW = (cur.toList.take i).toArray ++ Builtin.zeroCells Value.nilFunc.cells (cap + 1 - i) ++ Builtin.zeroCells Value.nilFunc.cells (G - (cap + 1)) := ⟨_, rfl⟩
  obtain ⟨W1, hW1⟩ : ∃ W1, W1 = w.drew.alloc (.cells ROW 81) := ⟨_, rfl⟩
  have hGn : cap + 1 ≤ G := by rw [hG]; exact grownCap_ge w _ _ _
  have hG63 : G ≤ 9223372036854775807 := by
    have := grownCap_le_maxLen w (cap + 1) cap 81 (by unfold maxLen; omega)
    rw [← hG] at this
    unfold maxLen at this
    omega
  have hrz : ∀ ty, (Builtin.append_ #[83, 3] ty #[.slice (some ⟨g, 0, none⟩) i cap, .int .i64 ((cap : Int) + 1 - (i : Int))]).run Tryz.prog w = .ok (.slice (some ⟨w.heap.size, 0, none⟩) (cap + 1) G) W1 := fun ty => by
    have h := Lib.run_append_grow_zeros (P := Tryz.prog) w 83 3 ty 81 i0 _ .i64 .i64 Tryz.underlying83 Tryz.underlying3 hi0 hz0 (some ⟨g, 0, none⟩) i cap (cur.toList.take i) hold (cap + 1 - i) (by omega) (by omega) (by omega) (by omega) (by rw [hzb]; omega) (by rw [hzb, hik]; exact growslice_fits hroom (by omega))
    rw [hik] at h
    rw [hkk, hW1, hROW, hG]
    exact h
  have hRl : ROW.size = G := by
    rw [hROW]
    simp [Builtin.zeroCells, Value.cells]
    omega
  have hRt : ROW.toList.take i = cur.toList.take i := by
    rw [hROW]
    simp only [Array.toList_append, List.append_assoc]
    rw [List.take_append_of_le_length (by simp; omega), List.take_of_length_le (by simp; omega)]
  have hNW : W1.heap[w.heap.size]? = some (.cells ROW 81 (0, 0)) := by rw [hW1]; exact heap_alloc_new w.drew _
  have hgW : W1.heap[g]? = some (.cells cur 81 (0, 0)) := by rw [hW1, Below.heap_alloc _ _ _ (by simpa using hgl)]; exact hg
  have hvW : W1.heap[vb]? = some (.cells #[x] 81 (0, 0)) := by rw [hW1, Below.heap_alloc _ _ _ (by simpa using hvl)]; exact hvb
  have hb1 : Below w.heap.size w W1 := by rw [hW1]; exact (below_drewN (Below.refl _ _) 1).alloc (by simp) _
  obtain ⟨R1, hR1⟩ : ∃ R1, R1 = ROW.toList.take i ++ [x] ++ ROW.toList.drop (i + 1) := ⟨_, rfl⟩
  obtain ⟨W2, hW2⟩ : ∃ W2, W2 = W1.setRow w.heap.size R1.toArray := ⟨_, rfl⟩
  have hcpA : ∀ ty dl dc, dl = cap + 1 - i → (Builtin.copy_ #[83, 83] ty #[.slice (some ⟨w.heap.size, i, none⟩) dl dc, .slice (some ⟨vb, 0, none⟩) 1 1]).run Tryz.prog W1 = .ok (goInt 1) W2 := fun ty dl dc e1 => by
    subst e1
    rw [hW2, hR1]
    exact run_copy_row (P := Tryz.prog) W1 _ _ ty 81 w.heap.size i (cap + 1 - i) dc ⟨vb, 0, none⟩ 1 1 ROW 81 [x] Tryz.underlying83 hs1 hNW (by simp only [Nat.min_def, List.length_singleton]; split <;> omega)
      (fun j v hj => by
        rw [Addr.add_lit, Nat.zero_add, cell_of_row W1 vb j _ _ _ hvW, ← Array.getElem?_toList]
        exact hj) (by simp; omega) (by simpa using hx1)
  have hNW2 : W2.heap[w.heap.size]? = some (.cells R1.toArray 81 (0, 0)) := by rw [hW2]; exact setRow_heap W1 w.heap.size ROW _ _ _ hNW
  have hgW2 : W2.heap[g]? = some (.cells cur 81 (0, 0)) := by rw [hW2, setRow_other _ _ _ _ (by omega)]; exact hgW
  have hR1l : R1.length = G := by rw [hR1]; simp; omega
  obtain ⟨R2, hR2⟩ : ∃ R2, R2 = R1.take (i + 1) ++ cur.toList.drop i ++ R1.drop (i + 1 + (cur.toList.drop i).length) := ⟨_, rfl⟩
  obtain ⟨W3, hW3⟩ : ∃ W3, W3 = W2.drew.setRow w.heap.size R2.toArray := ⟨_, rfl⟩
  have hcpB : ∀ ty dl dc sl sc, dl = cap - i → sl = cap - i → (Builtin.copy_ #[83, 83] ty #[.slice (some ⟨w.heap.size, i + 1, none⟩) dl dc, .slice (some ⟨g, i, none⟩) sl sc]).run Tryz.prog W2.drew = .ok (goInt (cur.toList.drop i).length) W3 := fun ty dl dc sl sc e1 e2 => by
    subst e1 e2
    rw [hW3, hR2]
    exact run_copy_row (P := Tryz.prog) W2.drew _ _ ty 81 w.heap.size (i + 1) (cap - i) dc ⟨g, i, none⟩ (cap - i) sc R1.toArray 81 (cur.toList.drop i) Tryz.underlying83 hs1 hNW2 (by rw [List.length_drop, hlc]; exact (Nat.min_self _).symm)
      (fun j v hj => by
        rw [Addr.add_lit, cell_of_row W2.drew g (i + j) _ _ _ hgW2, ← Array.getElem?_toList]
        rwa [List.getElem?_drop] at hj) (by rw [List.length_drop, hlc, List.size_toArray, hR1l]; omega) (fun v hv => h1 v (by rw [List.take_of_length_le (by omega)]; exact List.mem_of_mem_drop hv))
  have HR : Hid (FnsTo w (.slice (some ⟨g, 0, none⟩) cap cap) (cap + 1) ((cur.toList.take cap).take i ++ x :: (cur.toList.take cap).drop i) W3 (.slice (some ⟨w.heap.size, 0, none⟩) (cap + 1) G)) := by
    have ec : cur.toList.take cap = cur.toList := List.take_of_length_le (by omega)
    have hd : (cur.toList.drop i).length = cap - i := by rw [List.length_drop, hlc]
    refine ⟨⟨?_, .inr ⟨w.heap.size, G, _, rfl, Nat.zero_le _, by rw [hW3]; exact setRow_heap W2.drew w.heap.size _ _ _ _ hNW2, hGn, by unfold maxLen; omega, ?_, ?_⟩⟩, ?_, fun k e => .inr ?_⟩
    · rw [ec]; simp; omega
    · rw [List.size_toArray, hR2]; simp [hR1l, hd]; omega
    · rw [ec, Nat.mul_one, hR2]
      have e1 : R1.take (i + 1) = cur.toList.take i ++ [x] := by
        rw [hR1, List.append_assoc, ← List.append_assoc, List.take_append_of_le_length (by simp; omega), hRt, List.take_of_length_le (by simp; omega)]
      rw [e1, List.append_assoc, List.append_assoc]
      rw [List.take_append, List.take_of_length_le (by simp; omega)]
      congr 1
      simp only [List.singleton_append]
      rw [show cap + 1 - (cur.toList.take i).length = (cap - i) + 1 by rw [List.length_take, hlc]; omega, List.take_succ_cons, List.take_append_of_le_length (by omega), List.take_of_length_le (by omega)]
    · have hk3 : Kept W2 W3 (fun k => k = w.heap.size) := ⟨by rw [hW3]; rfl, by rw [hW3]; rfl, by rw [hW3]; rfl, by rw [hW3]; simp, fun k _ hn => by rw [hW3, setRow_other _ _ _ _ hn]; rfl⟩
      have hk2 : Kept W1 W2 (fun k => k = w.heap.size) := ⟨by rw [hW2]; rfl, by rw [hW2]; rfl, by rw [hW2]; rfl, by rw [hW2]; simp, fun k _ hn => by rw [hW2, setRow_other _ _ _ _ hn]⟩
      exact (Below.kept hb1).trans' (hk2.trans' (U := fun k => k = w.heap.size) hk3 (fun k _ e => e) (fun k _ e => e)) (fun k hk e => by omega) (fun k hk e => by omega)
    · simp [Value.ownBlock] at e; omega
  have hin : i ≤ cap := by omega
  have hGi : ¬ (G = i) := by omega
  have hGim : ¬ (G = i + 1) := by omega
  have hci : ¬ (cap = i) := by omega
  have hz2 : ¬ ((i : Int) = (cap : Int)) := by omega
  have hw1 : IntKind.i64.wrap ((i : Int) + 1) = (i : Int) + 1 := by rw [IntKind.wrap_i64]; omega
  have hb1' : (0 : Int) ≤ (i : Int) + 1 := by omega
  have htn : ((i : Int) + 1).toNat = i + 1 := by omega
  have hb3 : (i : Int) ≤ (cap : Int) := by omega
  have hb5 : (i : Int) + 1 ≤ (cap : Int) + 1 := by omega
  have mixed : Tryz.prog.follows .mixedOrders = true := by kernel_rfl
  clear hR2 hW3 hNW2 hgW2 hR1l hR1 hW2 hb1 hvW hgW hNW hRt hRl hW1 hROW hG hold hkk hik hlc hi0 hz0 hzs hzb hs1 hvb h1 hg hgl hvl hsz
  go_enter Tryz.func98, Tryz.ntmps98
  go_wp2_with (first
    | (at_builtin; refine Lib.wpList_append_run _ rfl _ _ _ _ rfl _ _ rfl rfl _ _ (hrz _) ?_)
    | (at_builtin; refine wpList_copy_runI _ rfl _ _ 83 83 rfl _ _ rfl rfl (hcpA _ _ _ (by omega)) ?_))
  go_region_law_o (refine step_copy_runI rfl _ _ 83 83 rfl (.slice (some ⟨w.heap.size, i + 1, none⟩) (cap - i) (G - (i + 1))) (.slice (some ⟨g, i, none⟩) (cap - i) (cap - i)) (by simp [Act.eval, Act.put]) (by simp [Act.eval, Act.put]) (hcpB 3 _ (G - (i + 1)) _ (cap - i) rfl rfl) ?_)
  go_wp2
  go_ret
  exact ⟨_, rfl, HR.out⟩

end Go.Proofs.YtdbphdllibffnaaGreat

/- manifest: the writes of a Put where a file of the name New is there. -/
namespace Go.Proofs.YtdbphdllibffnaaGreat
open Go.RowKit Go.Shelf
set_option maxRecDepth 8000

set_option maxHeartbeats 1000000 in
theorem index_yes {w : World} {B g c : Nat} {fs : List FiD} {n : ByteArray} (h : w.ownsRow B 9 1 (.slice (some ⟨g, 0, none⟩) fs.length c) fs.length (nmC fs)) (hno : ∃ f ∈ fs, f.name = n) (hfew : fs.length ≤ 64) (_hc : fs.length ≤ c ∧ c ≤ 9223372036854775807) :
    Calls Tryz.prog 120 #[.slice (some ⟨g, 0, none⟩) fs.length c, .string n] w fun e w' => ∃ j : Nat, e = .returned (.int .i64 j) ∧ j ≤ 64 ∧ w' = w := by
  have H : Hid (∀ k (hk : k < fs.length), w.cell? ⟨g, k, none⟩ = some (.string fs[k].name)) := fun k hk => by
    have := h.cellAt k (by simpa using hk)
    rw [this]
    simp [hk]
  have HN : Hid _ := hno
  clear h hno
  obtain ⟨N, hN⟩ : ∃ N, N = fs.length := ⟨_, rfl⟩
  rw [← hN] at hfew _hc ⊢
  have HNN : Hid _ := hN
  clear hN
  go_enter Tryz.func120, Tryz.ntmps120
  go_wp2_with fail
  go_loopw [5, 8] (fun _ vi wr => ∃ k : Nat, k ≤ N ∧ vi = .int .i64 k ∧ wr = w ∧ Hid (∀ j (hj : j < fs.length), j < k → fs[j].name ≠ n)) (fun _ vi _ => N - (intOf vi).toNat)
  case atStart => exact ⟨0, Nat.zero_le _, rfl, rfl, fun j _ hj => by omega⟩
  case round =>
    obtain ⟨k, hk, rfl, rfl, HJ⟩ := hrel
    by_cases hlt : k < N
    · have hlt1 : k < fs.length := by rw [← HNN.out]; exact hlt
      have hck := H.out k hlt1
      have hlb := World.block_lt_of_cell? _ _ hck
      by_cases hne : fs[k].name = n
      · rw [hne] at hck
        have hb : (n.toList == n.toList) = true := by simp
        go_wp2_with fail
        go_ret
        exact ⟨k, rfl, by omega, rfl⟩
      · have hb : (n.toList == fs[k].name.toList) = false := by
          rw [beq_eq_false_iff_ne]
          exact fun e => hne (toList_injM e).symm
        have hb2 : ¬ n.toList = fs[k].name.toList := fun e => hne (toList_injM e).symm
        have HJ2 : Hid (∀ j (hj : j < fs.length), j < k + 1 → fs[j].name ≠ n) := fun j hj hjk e => by
          rcases Nat.lt_or_ge j k with h9 | h9
          · exact HJ.out j hj h9 e
          · obtain rfl : j = k := by omega
            exact hne e
        clear hne HJ
        generalize fs[k].name = nm at *
        go_wp2_with fail
        go_roundw
        case rel => exact ⟨k + 1, by omega, by go_num, by trivial, HJ2⟩
        case measure => simp [intOf]; omega
    · exfalso
      obtain ⟨f, hf, hfn⟩ := HN.out
      obtain ⟨j, hj, e⟩ := List.mem_iff_getElem.1 hf
      exact HJ.out j hj (by have := HNN.out; omega) (by rw [e]; exact hfn)

set_option maxHeartbeats 400000 in
theorem contains_yes {w : World} {B g c : Nat} {fs : List FiD} {n : ByteArray} (h : w.ownsRow B 9 1 (.slice (some ⟨g, 0, none⟩) fs.length c) fs.length (nmC fs)) (hno : ∃ f ∈ fs, f.name = n) (hfew : fs.length ≤ 64) (hc : fs.length ≤ c ∧ c ≤ 9223372036854775807) :
    Calls Tryz.prog 95 #[.slice (some ⟨g, 0, none⟩) fs.length c, .string n] w fun e w' => e = .returned (.bool true) ∧ w' = w := by
  have HI : Hid _ := index_yes h hno hfew hc
  clear h hno
  go_enter Tryz.func95, Tryz.ntmps95
  go_wp2_with fail
  refine Calls.mono HI.out ?_
  rintro e w1 ⟨j, rfl, hj, hw1⟩
  subst w1
  have hj0 : (0 : Int) ≤ (j : Int) := by omega
  go_wp2_with fail
  go_ret
  exact ⟨rfl, rfl⟩

abbrev wfn4 (B : Nat) : Value := .func (.func 97) #[] #[.pointer (some ⟨B, 0, none⟩)]

set_option maxHeartbeats 400000 in
theorem wr4_any {w : World} {p : Nat} {fv : Value} {ms : List FiM} {D : DkD} (h : IsDk w p fv ms D) (ok : DkOk D) (hw : D.writes ≤ 4611686018427387904) (B : Nat) (c0 : w.cell? ⟨B, 0, none⟩ = some (.pointer (some ⟨p, 0, none⟩))) :
    Calls Tryz.prog 97 #[.pointer (some ⟨B, 0, none⟩)] w (ActTo w p fv ms (D.act (D.errO newN) (D.files.eraseIdx (dropI D.files newN)))) := by
  have HA : Hid _ := remove_any h ok hw newN
  have hl0 := World.block_lt_of_cell? w _ c0
  clear h ok
  go_enter Tryz.func97, Tryz.ntmps97
  go_wp2_with fail
  refine Calls.mono HA.out ?_
  rintro e w1 ⟨rfl, ht⟩
  have HT : Hid _ := ht
  clear ht
  go_wp2_with fail
  go_ret
  exact ⟨rfl, HT.out⟩

set_option maxHeartbeats 1000000 in
theorem writes_yes {w : World} {p : Nat} {fv : Value} {ms : List FiM} {D : DkD} (h : IsDk w p fv ms D) (ok : DkOk D) (hno : hasF D.files newN = true) (x : Option Addr) (l y : Nat) :
    Calls Tryz.prog 47 #[.pointer (some ⟨p, 0, none⟩), .slice x l y] w fun e w' => ∃ (g4 c4 : Nat) (cur4 : Array Value), e = .returned (.slice (some ⟨g4, 0, none⟩) 4 c4) ∧ (4 ≤ c4 ∧ c4 ≤ 9223372036854775807) ∧ Hid (w.heap.size ≤ g4 ∧ Below w.heap.size w w' ∧ w'.heap[w.heap.size]? = some (.cells #[.pointer (some ⟨p, 0, none⟩)] 25 (0, 0)) ∧ w'.heap[w.heap.size + 1]? = some (.cells #[.slice x l y] 36 (0, 0)) ∧ w'.heap[g4]? = some (.cells cur4 81 (0, 0)) ∧ cur4[0]? = some (wfn4 w.heap.size) ∧ cur4[1]? = some (wfn1 w.heap.size) ∧ cur4[2]? = some (wfn2 w.heap.size) ∧ cur4[3]? = some (wfn3 w.heap.size)) := by
  obtain ⟨W, eW⟩ : ∃ W, W = ((w.alloc (.cells #[.pointer (some ⟨p, 0, none⟩)] 25)).alloc (.cells #[.slice x l y] 36)).alloc (.cells #[wfn1 w.heap.size, wfn2 w.heap.size, wfn3 w.heap.size] 81) := ⟨_, rfl⟩
  have hs1 : (w.alloc (.cells #[.pointer (some ⟨p, 0, none⟩)] 25)).heap.size = w.heap.size + 1 := World.size_alloc ..
  have hs2 : ((w.alloc (.cells #[.pointer (some ⟨p, 0, none⟩)] 25)).alloc (.cells #[.slice x l y] 36)).heap.size = w.heap.size + 2 := by rw [World.size_alloc, hs1]
  have hs3 : W.heap.size = w.heap.size + 3 := by rw [eW, World.size_alloc, hs2]
  have hb3 : Below w.heap.size w W := by rw [eW]; exact Below.step (one_allocK _ _) (Below.step (one_allocK _ _) (one_allocK _ _))
  have r0 : W.heap[w.heap.size]? = some (.cells #[.pointer (some ⟨p, 0, none⟩)] 25 (0, 0)) := by
    rw [eW]
    exact (Below.kept (one_allocK _ _)).heap ((Below.kept (one_allocK _ _)).heap (heap_alloc_new w _) (fun e => by omega)) (fun e => by omega)
  have r1 : W.heap[w.heap.size + 1]? = some (.cells #[.slice x l y] 36 (0, 0)) := by
    rw [eW]
    have h1 := heap_alloc_new (w.alloc (.cells #[.pointer (some ⟨p, 0, none⟩)] 25)) (.cells #[.slice x l y] 36)
    rw [hs1] at h1
    exact (Below.kept (one_allocK _ _)).heap h1 (fun e => by omega)
  have r2 : W.heap[w.heap.size + 2]? = some (.cells #[wfn1 w.heap.size, wfn2 w.heap.size, wfn3 w.heap.size] 81 (0, 0)) := by
    rw [eW]
    have h1 := heap_alloc_new ((w.alloc (.cells #[.pointer (some ⟨p, 0, none⟩)] 25)).alloc (.cells #[.slice x l y] 36)) (.cells #[wfn1 w.heap.size, wfn2 w.heap.size, wfn3 w.heap.size] 81)
    rw [hs2] at h1
    exact h1
  have HN : Hid _ := dNames_any (h.later hb3) ok
  have HX : Hid (Below w.heap.size w W ∧ W.heap[w.heap.size]? = some (.cells #[.pointer (some ⟨p, 0, none⟩)] 25 (0, 0)) ∧ W.heap[w.heap.size + 1]? = some (.cells #[.slice x l y] 36 (0, 0)) ∧ W.heap[w.heap.size + 2]? = some (.cells #[wfn1 w.heap.size, wfn2 w.heap.size, wfn3 w.heap.size] 81 (0, 0)) ∧ DkOk D ∧ ∃ f ∈ D.files, f.name = newN) := ⟨hb3, r0, r1, r2, ok, (hasF_mem ok.rise newN).1 hno⟩
  have c0 : W.cell? ⟨w.heap.size, 0, none⟩ = some (.pointer (some ⟨p, 0, none⟩)) := cell_of_row W _ 0 _ _ _ r0
  have HE : Hid _ := eW
  have hlW := lt_of_block r0
  have HS3 : Hid _ := hs3
  clear h ok hno eW hb3 r0 r1 r2 hs1 hs2 hs3
  go_enter Tryz.func47, Tryz.ntmps47
  go_upto_region 2 with fail
  rw [← HE.out]
  go_wp2_with fail
  refine Calls.mono HN.out ?_
  rintro e w1 ⟨rfl, hn1, hb1⟩
  have HC : Hid _ := contains_yes hn1 HX.out.2.2.2.2.2 HX.out.2.2.2.2.1.few ⟨Nat.le_refl _, by have := HX.out.2.2.2.2.1.few; omega⟩
  have HB1 : Hid _ := hb1
  clear hn1 hb1 HN
  go_wp2_with fail
  refine Calls.mono HC.out ?_
  rintro e w2 ⟨rfl, hw2⟩
  subst w2
  obtain ⟨W5, eW5⟩ : ∃ W5, W5 = w1.alloc (.cells #[wfn4 w.heap.size] 81) := ⟨_, rfl⟩
  have hb5 : Below W.heap.size W W5 := Below.step HB1.out (by rw [eW5]; exact one_allocK _ _)
  have r5 : W5.heap[w1.heap.size]? = some (.cells #[wfn4 w.heap.size] 81 (0, 0)) := by rw [eW5]; exact heap_alloc_new w1 _
  have hs3 := HS3.out
  have q0 := (Below.kept hb5).heap HX.out.2.1 (fun e => by omega)
  have q1 := (Below.kept hb5).heap HX.out.2.2.1 (fun e => by omega)
  have q2 := (Below.kept hb5).heap HX.out.2.2.2.1 (fun e => by omega)
  have HIN : Hid _ := insert_fn (i := 0) (n := 3) (cap := 3) q2 rfl (Nat.le_refl _) (by omega) (fun u hu => by
    simp at hu
    rcases hu with rfl | rfl | rfl <;> rfl) (wfn4 w.heap.size) rfl w1.heap.size r5 (by omega) (by omega)
  have HQ : Hid (Below w.heap.size w W5 ∧ W5.heap[w.heap.size]? = some (.cells #[.pointer (some ⟨p, 0, none⟩)] 25 (0, 0)) ∧ W5.heap[w.heap.size + 1]? = some (.cells #[.slice x l y] 36 (0, 0))) := ⟨Below.step HX.out.1 hb5, q0, q1⟩
  have HE5 : Hid _ := eW5
  clear hb5 r5 hs3 q0 q1 q2 eW5
  go_wp2_with fail
  rw [← HE5.out]
  refine Calls.mono HIN.out ?_
  rintro e w6 ⟨v', rfl, hf⟩
  have HF : Hid _ := hf
  obtain ⟨g4, c4, cur4, rfl, hrow4, h4, h5, htk⟩ : ∃ (g4 c4 : Nat) (cur4 : Array Value), v' = .slice (some ⟨g4, 0, none⟩) 4 c4 ∧ w6.heap[g4]? = some (.cells cur4 81 (0, 0)) ∧ 4 ≤ c4 ∧ c4 ≤ maxLen ∧ cur4.toList.take 4 = [wfn4 w.heap.size, wfn1 w.heap.size, wfn2 w.heap.size, wfn3 w.heap.size] := by
    obtain ⟨_, ⟨_, h0⟩ | ⟨g4, c4, cur4, rfl, _, hrow4, h4, h5, hsz, htk⟩⟩ := hf.own
    · omega
    · exact ⟨g4, c4, cur4, rfl, hrow4, h4, h5, htk⟩
  have HZ : Hid (w6.heap[g4]? = some (.cells cur4 81 (0, 0)) ∧ cur4.toList.take 4 = [wfn4 w.heap.size, wfn1 w.heap.size, wfn2 w.heap.size, wfn3 w.heap.size]) := ⟨hrow4, htk⟩
  unfold maxLen at h5
  clear hf hrow4 htk HIN HE5
  go_wp2_with fail
  go_ret
  have hs3 := HS3.out
  have hcc : ∀ j, j < 4 → cur4[j]? = (cur4.toList.take 4)[j]? := fun j hj => by rw [List.getElem?_take, if_pos hj, Array.getElem?_toList]
  have hg4 : w.heap.size ≤ g4 := by
    rcases HF.out.blk g4 rfl with e | e
    · have e2 : w.heap.size + 2 = g4 := Option.some.inj e
      omega
    · have := HQ.out.1.size; omega
  refine ⟨g4, c4, cur4, rfl, ⟨h4, by omega⟩, hg4, ?_, HF.out.kept.heap HQ.out.2.1 (fun e => by have e2 : w.heap.size + 2 = w.heap.size := Option.some.inj e; omega), HF.out.kept.heap HQ.out.2.2 (fun e => by have e2 : w.heap.size + 2 = w.heap.size + 1 := Option.some.inj e; omega), HZ.out.1, ?_, ?_, ?_, ?_⟩
  · exact HQ.out.1.trans (HF.out.kept.below HQ.out.1.size (fun k e => by have e2 : w.heap.size + 2 = k := Option.some.inj e; omega))
  all_goals (rw [hcc _ (by omega), HZ.out.2]; rfl)

end Go.Proofs.YtdbphdllibffnaaGreat
