/- What CopyBytes of lagoonref00 answers: the same bytes in a row of its own. -/
import Derived.Test.YtldcbabgommghaaGreatDoorProg
import Derived.Test.YtldcbabgommghaaGreatDoorLeafSumJ
import Derived.Test.YtldcbabgommghaaGreatDoorEqQJ
import Derived.Maps.AppendAt
import Derived.Deep.RegionHeld2
namespace Go.Proofs.YtldcbabgommghaaGreatDoor
open Go.RowKit
set_option maxRecDepth 8000

theorem Tryz.infoByte : (Tryz.prog.info? 5).map (fun i => (i.zero, i.size, i.bytes)) = some (some (.int .u8 0), 1, 1) := by kernel_rfl

/-- One round of an append of one byte: what is owned, and that old memory stays. -/
theorem app_rel {B : Nat} {w wr w1 : World} {v v' : Value} {xs : List Int} {x : Int} (hBw : B ≤ wr.heap.size) (hown : Owns wr B v xs) (hbel : Below B w wr) {o : Obj}
    (hown' : w1.ownsRow B 5 1 v' (xs.length + 1) (xs.map (Value.int .u8) ++ [.int .u8 x])) (hgrow : (wr.alloc o).grownBy w1 v.ownBlock) :
    Owns w1 B v' (xs ++ [x]) ∧ Below B w w1 ∧ B ≤ w1.heap.size := by
  refine ⟨by simpa [Owns] using hown', ?_, ?_⟩
  · exact ((hbel.alloc hBw o).grown hgrow (by simp; omega) (fun k hk => (hown.lt k hk).1))
  · have := hgrow.size; simp at this; omega

set_option maxHeartbeats 400000 in
theorem copyBytes_any (v : Value) (xs : List Int) (w : World) (h : Sees w v xs) (hreach : xs.length ≤ 70000000000000) :
    Calls Tryz.prog 33 #[v] w fun e w' => ∃ v', e = .returned v' ∧ Owns w' w.heap.size v' xs ∧ Below w.heap.size w w' := by
  obtain ⟨ao, cap, rfl, hlc, hcm, _, h3⟩ := h
  unfold maxLen at hcm
  obtain ⟨i0, hi, hz0, hz1, hz2⟩ := info_parts Tryz.infoByte
  go_enter Tryz.func33, Tryz.ntmps33
  go_wp2
  go_loopw [3, 4] (fun v i wr => ∃ k : Nat, k ≤ xs.length ∧ i = .int .i64 k ∧ Owns wr w.heap.size v (xs.take k) ∧ Below w.heap.size w wr) (fun _ i _ => xs.length - (intOf i).toNat)
  case atStart => exact ⟨0, Nat.zero_le _, rfl, World.ownsRow_nil _ _ _ _, Below.refl _ _⟩
  case round =>
    obtain ⟨k, hk, rfl, hown, hbel⟩ := hrel
    by_cases hlt : k < xs.length
    · rcases h3 with h3 | ⟨b, off, rfl, h3⟩
      · subst h3; simp at hlt
      · have hc := cell_later (h3 k hlt) hbel (Nat.le_refl _)
        have HN : Hid _ := take_next xs k hlt
        have hlen : (xs.take k).length = k := by simp; omega
        have HL : Hid _ := hlen
        clear hlen h3
        generalize xs.getD k 0 = x at *
        generalize xs.take k = ys at *
        have hsz := hbel.size
        go_wp2_with (at_builtin; refine wpList_append_own _ rfl _ _ 30 rfl w.heap.size 5 i0 (.int .u8 0) 1 1 Tryz.underlying30 hi hz0 hz1 hz2 rfl (by decide) _ _ _ rfl (hown.alloc _) ⟨wr.heap.size, 0, none⟩ 1 1 [.int .u8 x] rfl rfl ?c1 ?c2 ?c3 ?c4 ?c5 ?_)
        case c1 =>
          intro j u hj
          match j, hj with
          | 0, hj => simp at hj; subst hj; simp [Addr.add]
        case c2 => intro u hu; simp at hu; subst hu; rfl
        case c3 => have := HL.out; unfold maxLen; omega
        case c4 => have := HL.out; omega
        case c5 => simp; omega
        intro v' w1 hown' hgrow _
        have R := app_rel hsz hown hbel hown' hgrow
        clear hown' hgrow hown hc
        go_wp2
        go_roundw
        case rel => exact ⟨k + 1, by omega, by go_num, by rw [HN.out]; exact R.1, R.2.1⟩
        case measure => simp [intOf]; omega
    · obtain rfl : k = xs.length := by omega
      rw [List.take_length] at hown
      go_wp2
      go_ret
      exact ⟨_, rfl, hown, hbel⟩

end Go.Proofs.YtldcbabgommghaaGreatDoor

/- CopyIds and CopyAcl of lagoonref00: the same elements in a row of their own; a row that is owned, seen. -/
namespace Go.Proofs.YtldcbabgommghaaGreatDoor
open Go.RowKit
set_option maxRecDepth 8000

theorem flat_at {z : Nat} {cs : List (List Value)} (hz : ∀ c ∈ cs, c.length = z) (k j : Nat) (hk : k < cs.length) (hj : j < z) : cs.flatten[k * z + j]? = some (cs[k].getD j (.bool false)) := by
  induction cs generalizing k with
  | nil => simp at hk
  | cons c r ih =>
    have hc := hz c (by simp)
    rw [List.flatten_cons]
    cases k with
    | zero =>
      rw [List.getElem?_append_left (by omega), Nat.zero_mul, Nat.zero_add]
      simp [List.getD_eq_getElem?_getD, hc, hj]
    | succ k =>
      have e : (k + 1) * z + j - c.length = k * z + j := by rw [hc, Nat.succ_mul]; omega
      rw [List.getElem?_append_right (by rw [hc, Nat.succ_mul]; omega), e, ih (fun c hc => hz c (by simp [hc])) k (by simpa using hk)]
      simp

/-- A row that is owned is seen. -/
theorem seesR_own {w : World} {base : Nat} {t : TypeId} {z : Nat} {v : Value} {cs : List (List Value)} (h : w.ownsRow base t z v cs.length cs.flatten) (hz : ∀ c ∈ cs, c.length = z) : SeesR w v z cs := by
  rcases h.2 with ⟨rfl, h0⟩ | ⟨g, cap, cur, rfl, h1, h2, h3, h4, h5, h6⟩
  · have : cs = [] := List.eq_nil_of_length_eq_zero h0
    subst this
    exact SeesR.nil w z
  · refine ⟨_, cap, rfl, h3, h4, fun e => by simp at e, .inr ⟨g, 0, rfl, fun i hi j hj => ?_⟩⟩
    have hlt : i * z + j < cs.length * z := by
      have : (i + 1) * z ≤ cs.length * z := Nat.mul_le_mul_right z hi
      rw [Nat.succ_mul] at this
      omega
    rw [Nat.zero_add, cell_of_row _ _ _ _ _ _ h2, ← flat_at hz i j hi hj, ← h6]
    rw [List.getElem?_take, if_pos hlt]
    simp

theorem addrAdd (b off n : Nat) : (⟨b, off, none⟩ : Addr).add n = ⟨b, off + n, none⟩ := by
  by_cases h : n = 0
  · subst h; simp [Addr.add]
  · simp [Addr.add, h]

theorem ownsRow_kept {w w' : World} {S : Nat → Prop} {base : Nat} {t : TypeId} {z n : Nat} {v : Value} {xs : List Value} (h : w.ownsRow base t z v n xs) (hk : Kept w w' S) (hn : ∀ k, v.ownBlock = some k → ¬ S k) : w'.ownsRow base t z v n xs := by
  refine ⟨h.1, ?_⟩
  rcases h.2 with h | ⟨g, cap, cur, rfl, h1, h2, h3⟩
  · exact .inl h
  · exact .inr ⟨g, cap, cur, rfl, h1, hk.heap h2 (hn g rfl), h3⟩

theorem Tryz.infoId : (Tryz.prog.info? 129).map (fun i => (i.zero, i.size, i.bytes)) = some (some (.agg #[.string ⟨#[]⟩, .string ⟨#[]⟩]), 2, 32) := by kernel_rfl
theorem Tryz.infoEn : (Tryz.prog.info? 131).map (fun i => (i.zero, i.size, i.bytes)) = some (some (.agg #[.int .i8 0, .string ⟨#[]⟩, .string ⟨#[]⟩]), 3, 40) := by kernel_rfl

set_option maxHeartbeats 1000000 in
theorem copyIds_any (v : Value) (l : List IdD) (w : World) (h : SeesR w v 2 (l.map IdD.cells)) (hl : l.length ≤ 1000000) :
    Calls Tryz.prog 67 #[v] w fun e w' => ∃ v', e = .returned v' ∧ w'.ownsRow w.heap.size 129 2 v' (l.map IdD.cells).length (l.map IdD.cells).flatten ∧ Below w.heap.size w w' := by
  obtain ⟨ao, cap, rfl, hlc, hcm, _, h3⟩ := h
  unfold maxLen at hcm
  rw [List.length_map] at hlc ⊢
  obtain ⟨i0, hi, hz0, hz1, hz2⟩ := info_parts Tryz.infoId
  go_enter Tryz.func67, Tryz.ntmps67
  go_wp2
  go_loopw [3, 4] (fun v i wr => ∃ k : Nat, k ≤ l.length ∧ i = .int .i64 k ∧ wr.ownsRow w.heap.size 129 2 v k ((l.take k).map IdD.cells).flatten ∧ Below w.heap.size w wr) (fun _ i _ => l.length - (intOf i).toNat)
  case atStart => exact ⟨0, Nat.zero_le _, rfl, World.ownsRow_nil _ _ _ _, Below.refl _ _⟩
  case round =>
    obtain ⟨k, hk, rfl, hown, hbel⟩ := hrel
    by_cases hlt : k < l.length
    · rcases h3 with h3 | ⟨b, off, rfl, h3⟩
      · have : l.length = 0 := by simpa using congrArg List.length h3
        omega
      · have c0 := cell_later (h3 k (by simpa using hlt) 0 (by omega)) hbel (Nat.le_refl _)
        have c1 := cell_later (h3 k (by simpa using hlt) 1 (by omega)) hbel (Nat.le_refl _)
        simp [IdD.cells] at c0 c1
        have HN : Hid (((l.take (k + 1)).map IdD.cells).flatten = ((l.take k).map IdD.cells).flatten ++ l[k].cells) := by
          show _ = _
          rw [List.take_succ_eq_append_getElem hlt, List.map_append, List.flatten_append]
          simp
        have HO : Hid _ := And.intro hown hbel
        have hsz := hbel.size
        clear h3 hown hbel
        generalize l[k] = x at *
        generalize ((l.take k).map IdD.cells).flatten = ys at *
        go_wp2_with (at_builtin; refine wpList_append_own_at _ rfl _ _ 32 rfl w.heap.size 129 i0 _ 2 32 Tryz.underlying32 hi hz0 hz1 hz2 rfl (by decide) _ _ _ rfl (ownsRow_kept HO.out.1 ((Kept.refl wr (fun _ => False)).alloc _) (fun _ _ h => h)) ⟨wr.heap.size, 0, none⟩ 1 1 x.cells rfl rfl ?c1 ?c2 ?c3 ?c4 ?c5 ?_)
        case c1 =>
          intro j u hj
          rw [addrAdd, Nat.zero_add, cell_of_row _ _ _ _ _ _ (heap_alloc_new _ _)]
          rw [← hj]
          simp [IdD.cells]
        case c2 =>
          intro u hu
          simp only [IdD.cells, List.mem_cons, List.not_mem_nil, or_false] at hu
          rcases hu with rfl | rfl <;> rfl
        case c3 => unfold maxLen; omega
        case c4 => omega
        case c5 => simp; omega
        intro v' w1 hown' hgrow _ _
        have HR : Hid (w1.ownsRow w.heap.size 129 2 v' (k + 1) (ys ++ x.cells) ∧ Below w.heap.size w w1) :=
          ⟨hown', (HO.out.2.alloc HO.out.2.size _).grown hgrow (by simp; omega) (fun k hk => (HO.out.1.lt k hk).1)⟩
        clear hown' hgrow HO c0 c1
        go_wp2
        go_roundw
        case rel => exact ⟨k + 1, by omega, by go_num, by rw [HN.out]; exact HR.out.1, HR.out.2⟩
        case measure => simp [intOf]; omega
    · obtain rfl : k = l.length := by omega
      rw [List.take_length] at hown
      go_wp2
      go_ret
      exact ⟨_, rfl, hown, hbel⟩
set_option maxHeartbeats 1000000 in
theorem copyAcl_any (v : Value) (l : List EnD) (w : World) (h : SeesR w v 3 (l.map EnD.cells)) (hl : l.length ≤ 1000000) :
    Calls Tryz.prog 66 #[v] w fun e w' => ∃ v', e = .returned v' ∧ w'.ownsRow w.heap.size 131 3 v' (l.map EnD.cells).length (l.map EnD.cells).flatten ∧ Below w.heap.size w w' := by
  obtain ⟨ao, cap, rfl, hlc, hcm, _, h3⟩ := h
  unfold maxLen at hcm
  rw [List.length_map] at hlc ⊢
  obtain ⟨i0, hi, hz0, hz1, hz2⟩ := info_parts Tryz.infoEn
  go_enter Tryz.func66, Tryz.ntmps66
  go_wp2
  go_loopw [3, 4] (fun v i wr => ∃ k : Nat, k ≤ l.length ∧ i = .int .i64 k ∧ wr.ownsRow w.heap.size 131 3 v k ((l.take k).map EnD.cells).flatten ∧ Below w.heap.size w wr) (fun _ i _ => l.length - (intOf i).toNat)
  case atStart => exact ⟨0, Nat.zero_le _, rfl, World.ownsRow_nil _ _ _ _, Below.refl _ _⟩
  case round =>
    obtain ⟨k, hk, rfl, hown, hbel⟩ := hrel
    by_cases hlt : k < l.length
    · rcases h3 with h3 | ⟨b, off, rfl, h3⟩
      · have : l.length = 0 := by simpa using congrArg List.length h3
        omega
      · have c0 := cell_later (h3 k (by simpa using hlt) 0 (by omega)) hbel (Nat.le_refl _)
        have c1 := cell_later (h3 k (by simpa using hlt) 1 (by omega)) hbel (Nat.le_refl _)
        have c2 := cell_later (h3 k (by simpa using hlt) 2 (by omega)) hbel (Nat.le_refl _)
        simp [EnD.cells] at c0 c1 c2
        have HN : Hid (((l.take (k + 1)).map EnD.cells).flatten = ((l.take k).map EnD.cells).flatten ++ l[k].cells) := by
          show _ = _
          rw [List.take_succ_eq_append_getElem hlt, List.map_append, List.flatten_append]
          simp
        have HO : Hid _ := And.intro hown hbel
        have hsz := hbel.size
        clear h3 hown hbel
        generalize l[k] = x at *
        generalize ((l.take k).map EnD.cells).flatten = ys at *
        go_wp2_with (at_builtin; refine wpList_append_own_at _ rfl _ _ 31 rfl w.heap.size 131 i0 _ 3 40 Tryz.underlying31 hi hz0 hz1 hz2 rfl (by decide) _ _ _ rfl (ownsRow_kept HO.out.1 ((Kept.refl wr (fun _ => False)).alloc _) (fun _ _ h => h)) ⟨wr.heap.size, 0, none⟩ 1 1 x.cells rfl rfl ?c1 ?c2 ?c3 ?c4 ?c5 ?_)
        case c1 =>
          intro j u hj
          rw [addrAdd, Nat.zero_add, cell_of_row _ _ _ _ _ _ (heap_alloc_new _ _)]
          rw [← hj]
          simp [EnD.cells]
        case c2 =>
          intro u hu
          simp only [EnD.cells, List.mem_cons, List.not_mem_nil, or_false] at hu
          rcases hu with rfl | rfl | rfl <;> rfl
        case c3 => unfold maxLen; omega
        case c4 => omega
        case c5 => simp; omega
        intro v' w1 hown' hgrow _ _
        have HR : Hid (w1.ownsRow w.heap.size 131 3 v' (k + 1) (ys ++ x.cells) ∧ Below w.heap.size w w1) :=
          ⟨hown', (HO.out.2.alloc HO.out.2.size _).grown hgrow (by simp; omega) (fun k hk => (HO.out.1.lt k hk).1)⟩
        clear hown' hgrow HO c0 c1 c2
        go_wp2
        go_roundw
        case rel => exact ⟨k + 1, by omega, by go_num, by rw [HN.out]; exact HR.out.1, HR.out.2⟩
        case measure => simp [intOf]; omega
    · obtain rfl : k = l.length := by omega
      rw [List.take_length] at hown
      go_wp2
      go_ret
      exact ⟨_, rfl, hown, hbel⟩

end Go.Proofs.YtldcbabgommghaaGreatDoor

/- A row of cells that is stored over, cell by cell; a result that lies in a variable. No Go function is walked here. -/
namespace Go.Proofs.YtldcbabgommghaaGreatDoor
open Go.RowKit
set_option maxRecDepth 8000

theorem heap_setR {w : World} {b i : Nat} {cs : Array Value} {t : TypeId} {fr : Nat × Nat} (c : Value) (h : w.heap[b]? = some (.cells cs t fr)) : (w.setCell ⟨b, i, none⟩ c).heap[b]? = some (.cells (cs.setIfInBounds i c) t fr) := by
  rw [setCell_eq_setRow w b i cs t fr c h]
  exact setRow_heap w b cs _ t fr h

theorem stored11 {U : World} {b : Nat} {t : TypeId} {d0 d1 d2 d3 d4 d5 d6 d7 d8 d9 d10 : Value} (c0 c1 c2 c3 c4 c5 c6 c7 c8 c9 c10 : Value) (hbox : U.heap[b]? = some (.cells #[d0, d1, d2, d3, d4, d5, d6, d7, d8, d9, d10] t (0, 0))) :
    (((((((((((U.setCell ⟨b, 0, none⟩ c0).setCell ⟨b, 1, none⟩ c1).setCell ⟨b, 2, none⟩ c2).setCell ⟨b, 3, none⟩ c3).setCell ⟨b, 4, none⟩ c4).setCell ⟨b, 5, none⟩ c5).setCell ⟨b, 6, none⟩ c6).setCell ⟨b, 7, none⟩ c7).setCell ⟨b, 8, none⟩ c8).setCell ⟨b, 9, none⟩ c9).setCell ⟨b, 10, none⟩ c10).heap[b]? = some (.cells #[c0, c1, c2, c3, c4, c5, c6, c7, c8, c9, c10] t (0, 0)) ∧ Kept U (((((((((((U.setCell ⟨b, 0, none⟩ c0).setCell ⟨b, 1, none⟩ c1).setCell ⟨b, 2, none⟩ c2).setCell ⟨b, 3, none⟩ c3).setCell ⟨b, 4, none⟩ c4).setCell ⟨b, 5, none⟩ c5).setCell ⟨b, 6, none⟩ c6).setCell ⟨b, 7, none⟩ c7).setCell ⟨b, 8, none⟩ c8).setCell ⟨b, 9, none⟩ c9).setCell ⟨b, 10, none⟩ c10) (fun k => k = b) := by
  refine ⟨?_, ?_⟩
  · have hrow := (heap_setR (i := 10) c10 (heap_setR (i := 9) c9 (heap_setR (i := 8) c8 (heap_setR (i := 7) c7 (heap_setR (i := 6) c6 (heap_setR (i := 5) c5 (heap_setR (i := 4) c4 (heap_setR (i := 3) c3 (heap_setR (i := 2) c2 (heap_setR (i := 1) c1 (heap_setR (i := 0) c0 hbox)))))))))))
    have e : (((((((((((#[d0, d1, d2, d3, d4, d5, d6, d7, d8, d9, d10].setIfInBounds 0 c0).setIfInBounds 1 c1).setIfInBounds 2 c2).setIfInBounds 3 c3).setIfInBounds 4 c4).setIfInBounds 5 c5).setIfInBounds 6 c6).setIfInBounds 7 c7).setIfInBounds 8 c8).setIfInBounds 9 c9).setIfInBounds 10 c10) = #[c0, c1, c2, c3, c4, c5, c6, c7, c8, c9, c10] := by simp
    rw [e] at hrow
    exact hrow
  · exact (Kept.setCell (Kept.setCell (Kept.setCell (Kept.setCell (Kept.setCell (Kept.setCell (Kept.setCell (Kept.setCell (Kept.setCell (Kept.setCell (Kept.setCell (Kept.refl U (fun k => k = b)) ⟨b, 0, none⟩ c0 (fun _ => rfl)) ⟨b, 1, none⟩ c1 (fun _ => rfl)) ⟨b, 2, none⟩ c2 (fun _ => rfl)) ⟨b, 3, none⟩ c3 (fun _ => rfl)) ⟨b, 4, none⟩ c4 (fun _ => rfl)) ⟨b, 5, none⟩ c5 (fun _ => rfl)) ⟨b, 6, none⟩ c6 (fun _ => rfl)) ⟨b, 7, none⟩ c7 (fun _ => rfl)) ⟨b, 8, none⟩ c8 (fun _ => rfl)) ⟨b, 9, none⟩ c9 (fun _ => rfl)) ⟨b, 10, none⟩ c10 (fun _ => rfl))

theorem stored16 {U : World} {b : Nat} {t : TypeId} {d0 d1 d2 d3 d4 d5 d6 d7 d8 d9 d10 d11 d12 d13 d14 d15 : Value} (c0 c1 c2 c3 c4 c5 c6 c7 c8 c9 c10 c11 c12 c13 c14 c15 : Value) (hbox : U.heap[b]? = some (.cells #[d0, d1, d2, d3, d4, d5, d6, d7, d8, d9, d10, d11, d12, d13, d14, d15] t (0, 0))) :
    ((((((((((((((((U.setCell ⟨b, 0, none⟩ c0).setCell ⟨b, 1, none⟩ c1).setCell ⟨b, 2, none⟩ c2).setCell ⟨b, 3, none⟩ c3).setCell ⟨b, 4, none⟩ c4).setCell ⟨b, 5, none⟩ c5).setCell ⟨b, 6, none⟩ c6).setCell ⟨b, 7, none⟩ c7).setCell ⟨b, 8, none⟩ c8).setCell ⟨b, 9, none⟩ c9).setCell ⟨b, 10, none⟩ c10).setCell ⟨b, 11, none⟩ c11).setCell ⟨b, 12, none⟩ c12).setCell ⟨b, 13, none⟩ c13).setCell ⟨b, 14, none⟩ c14).setCell ⟨b, 15, none⟩ c15).heap[b]? = some (.cells #[c0, c1, c2, c3, c4, c5, c6, c7, c8, c9, c10, c11, c12, c13, c14, c15] t (0, 0)) ∧ Kept U ((((((((((((((((U.setCell ⟨b, 0, none⟩ c0).setCell ⟨b, 1, none⟩ c1).setCell ⟨b, 2, none⟩ c2).setCell ⟨b, 3, none⟩ c3).setCell ⟨b, 4, none⟩ c4).setCell ⟨b, 5, none⟩ c5).setCell ⟨b, 6, none⟩ c6).setCell ⟨b, 7, none⟩ c7).setCell ⟨b, 8, none⟩ c8).setCell ⟨b, 9, none⟩ c9).setCell ⟨b, 10, none⟩ c10).setCell ⟨b, 11, none⟩ c11).setCell ⟨b, 12, none⟩ c12).setCell ⟨b, 13, none⟩ c13).setCell ⟨b, 14, none⟩ c14).setCell ⟨b, 15, none⟩ c15) (fun k => k = b) := by
  refine ⟨?_, ?_⟩
  · have hrow := (heap_setR (i := 15) c15 (heap_setR (i := 14) c14 (heap_setR (i := 13) c13 (heap_setR (i := 12) c12 (heap_setR (i := 11) c11 (heap_setR (i := 10) c10 (heap_setR (i := 9) c9 (heap_setR (i := 8) c8 (heap_setR (i := 7) c7 (heap_setR (i := 6) c6 (heap_setR (i := 5) c5 (heap_setR (i := 4) c4 (heap_setR (i := 3) c3 (heap_setR (i := 2) c2 (heap_setR (i := 1) c1 (heap_setR (i := 0) c0 hbox))))))))))))))))
    have e : ((((((((((((((((#[d0, d1, d2, d3, d4, d5, d6, d7, d8, d9, d10, d11, d12, d13, d14, d15].setIfInBounds 0 c0).setIfInBounds 1 c1).setIfInBounds 2 c2).setIfInBounds 3 c3).setIfInBounds 4 c4).setIfInBounds 5 c5).setIfInBounds 6 c6).setIfInBounds 7 c7).setIfInBounds 8 c8).setIfInBounds 9 c9).setIfInBounds 10 c10).setIfInBounds 11 c11).setIfInBounds 12 c12).setIfInBounds 13 c13).setIfInBounds 14 c14).setIfInBounds 15 c15) = #[c0, c1, c2, c3, c4, c5, c6, c7, c8, c9, c10, c11, c12, c13, c14, c15] := by simp
    rw [e] at hrow
    exact hrow
  · exact (Kept.setCell (Kept.setCell (Kept.setCell (Kept.setCell (Kept.setCell (Kept.setCell (Kept.setCell (Kept.setCell (Kept.setCell (Kept.setCell (Kept.setCell (Kept.setCell (Kept.setCell (Kept.setCell (Kept.setCell (Kept.setCell (Kept.refl U (fun k => k = b)) ⟨b, 0, none⟩ c0 (fun _ => rfl)) ⟨b, 1, none⟩ c1 (fun _ => rfl)) ⟨b, 2, none⟩ c2 (fun _ => rfl)) ⟨b, 3, none⟩ c3 (fun _ => rfl)) ⟨b, 4, none⟩ c4 (fun _ => rfl)) ⟨b, 5, none⟩ c5 (fun _ => rfl)) ⟨b, 6, none⟩ c6 (fun _ => rfl)) ⟨b, 7, none⟩ c7 (fun _ => rfl)) ⟨b, 8, none⟩ c8 (fun _ => rfl)) ⟨b, 9, none⟩ c9 (fun _ => rfl)) ⟨b, 10, none⟩ c10 (fun _ => rfl)) ⟨b, 11, none⟩ c11 (fun _ => rfl)) ⟨b, 12, none⟩ c12 (fun _ => rfl)) ⟨b, 13, none⟩ c13 (fun _ => rfl)) ⟨b, 14, none⟩ c14 (fun _ => rfl)) ⟨b, 15, none⟩ c15 (fun _ => rfl))

theorem resCell1 {fn : Func} {p : Tmp} {ty : TypeId} (h : fn.results = #[.cell p ty]) (tmps : Array Value) (P : Program) (w : World) :
    (results fn tmps).run P w = ((asAddr (tmps.getD p undef)).run P w).andThen fun a w₁ => (loadVar ty a).run P w₁ := by
  simp only [results, h]
  simp [Sem.run_bind, Result.andThen]

theorem rq_size : (Tryz.prog.info? 35).map (·.size) = some 11 := by kernel_rfl
theorem tx_size : (Tryz.prog.info? 37).map (·.size) = some 16 := by kernel_rfl
end Go.Proofs.YtldcbabgommghaaGreatDoor

/- A request that lies in blocks of a given set; what stands while a request is copied; an append as a step of a drawn region. No Go function is walked here. -/
namespace Go.Proofs.YtldcbabgommghaaGreatDoor
open Go.RowKit
set_option maxRecDepth 8000

theorem SeesR.kept {w w' : World} {S : Nat → Prop} {v : Value} {z : Nat} {cs : List (List Value)} (h : SeesR w v z cs) (hk : Kept w w' S) (hn : ∀ k, v.ownBlock = some k → ¬ S k) : SeesR w' v z cs := by
  obtain ⟨ao, cap, rfl, h1, h2, h0, h3⟩ := h
  refine ⟨ao, cap, rfl, h1, h2, h0, ?_⟩
  rcases h3 with h3 | ⟨b, off, rfl, h3⟩
  · exact .inl h3
  · exact .inr ⟨b, off, rfl, fun i hi j hj => hk.cell (h3 i hi j hj) (hn b rfl)⟩

/-- The cells cs are those of the request r, and all its lists lie in blocks of F. -/
inductive RqIn (w : World) (F : Nat → Prop) : List Value → Rq → Prop where
  | mk (f : RqF) (n : Nat) (ops : Fin n → Rq) (dv av wv ov : Value) (oc : Fin n → List Value)
      (hd : Sees w dv f.data) (ha : SeesR w av 3 (f.acl.map EnD.cells)) (hw : SeesR w wv 2 (f.who.map IdD.cells)) (ho : SeesR w ov 11 (List.ofFn oc))
      (fd : ∀ k, dv.ownBlock = some k → F k) (fa : ∀ k, av.ownBlock = some k → F k) (fw : ∀ k, wv.ownBlock = some k → F k) (fo : ∀ k, ov.ownBlock = some k → F k)
      (hs : ∀ i : Fin n, RqIn w F (oc i) (ops i)) : RqIn w F (rqCells f dv av wv ov) (.mk f n ops)

theorem RqIn.sees {w : World} {F : Nat → Prop} {cs : List Value} {r : Rq} (h : RqIn w F cs r) : SeesRq w cs r := by
  induction h with
  | mk f n ops dv av wv ov oc hd ha hw ho _ _ _ _ _ ih => exact .mk f n ops dv av wv ov oc hd ha hw ho ih

theorem RqIn.kept {w w' : World} {S F F' : Nat → Prop} (hk : Kept w w' S) (hF : ∀ k, F k → ¬ S k ∧ F' k) {cs : List Value} {r : Rq} (h : RqIn w F cs r) : RqIn w' F' cs r := by
  induction h with
  | mk f n ops dv av wv ov oc hd ha hw ho fd fa fw fo _ ih =>
    exact .mk f n ops dv av wv ov oc (hd.kept hk (fun k h => (hF k (fd k h)).1)) (ha.kept hk (fun k h => (hF k (fa k h)).1)) (hw.kept hk (fun k h => (hF k (fw k h)).1)) (ho.kept hk (fun k h => (hF k (fo k h)).1))
      (fun k h => (hF k (fd k h)).2) (fun k h => (hF k (fa k h)).2) (fun k h => (hF k (fw k h)).2) (fun k h => (hF k (fo k h)).2) ih

abbrev rqZ : Array Value := #[.int .i8 0, .string ⟨#[]⟩, .slice none 0 0, .slice none 0 0, .int .i32 0, .bool false, .bool false, .int .i64 0, .int .i32 0, .slice none 0 0, .slice none 0 0]

/-- What stands while a request is copied: the one that came in at N, the result's variable, the copy. -/
structure CS (w W : World) (cs ds : Array Value) : Prop where
  r : W.heap[w.heap.size]? = some (.cells cs 35 (0, 0))
  o : W.heap[w.heap.size + 1]? = some (.cells rqZ 35 (0, 0))
  c : W.heap[w.heap.size + 2]? = some (.cells ds 35 (0, 0))
  bel : Below w.heap.size w W

section
variable {w W W' : World} {cs ds : Array Value}
theorem CS.kept {S : Nat → Prop} (h : CS w W cs ds) (hk : Kept W W' S) (hS : ∀ k, S k → w.heap.size + 3 ≤ k) : CS w W' cs ds := by
  refine ⟨hk.heap h.r (fun e => by have := hS _ e; omega), hk.heap h.o (fun e => by have := hS _ e; omega), hk.heap h.c (fun e => by have := hS _ e; omega), h.bel.trans (hk.below h.bel.size (fun k e => by have := hS _ e; omega))⟩
theorem CS.lt (h : CS w W cs ds) : w.heap.size + 3 ≤ W.heap.size := lt_of_block h.c
theorem CS.later (h : CS w W cs ds) (hb : Below W.heap.size W W') : CS w W' cs ds := h.kept (Below.kept hb) (fun k hk => by have := h.lt; omega)
theorem CS.set (h : CS w W cs ds) (j : Nat) (u : Value) : CS w (W.setCell ⟨w.heap.size + 2, j, none⟩ u) cs (ds.setIfInBounds j u) := by
  have hk : Kept W (W.setCell ⟨w.heap.size + 2, j, none⟩ u) (fun k => k = w.heap.size + 2) := (Kept.refl W (fun k => k = w.heap.size + 2)).setCell _ _ (fun _ => rfl)
  refine ⟨hk.heap h.r (by omega), hk.heap h.o (by omega), heap_setR _ h.c, h.bel.trans (hk.below h.bel.size (fun k e => by omega))⟩
theorem CS.rc (h : CS w W cs ds) (j : Nat) : W.cell? ⟨w.heap.size, j, none⟩ = cs[j]? := cell_of_row _ _ _ _ _ _ h.r
theorem CS.cc (h : CS w W cs ds) (j : Nat) : W.cell? ⟨w.heap.size + 2, j, none⟩ = ds[j]? := cell_of_row _ _ _ _ _ _ h.c
theorem CS.cf (h : CS w W cs ds) (j : Nat) : W.frozen? ⟨w.heap.size + 2, j, none⟩ = false := frozen_of_row _ _ _ _ _ h.c
end

theorem Tryz.infoRq : (Tryz.prog.info? 35).map (fun i => (i.zero, i.size, i.bytes)) = some (some (.agg rqZ), 11, 144) := by kernel_rfl

theorem step_append_at {P : Program} {ops : Array Oper} {o : Oper} {a : Act} {w : World} {K : Act → World → Prop} {Q : Exit → Act → World → Prop} {E : Prop}
    (hg : o.guard = none) (s x : Operand) (t : TypeId) (hop : o.op = Op.call { callee := Callee.builtin Builtin.append, args := #[s, x], argTypes := #[t, t] })
    (base : Nat) (e : TypeId) (i : TypeInfo) (z : Value) (size bytes : Nat) (ht : P.underlying t = some (.slice e)) (hi : P.info? e = some i) (hz : i.zero = some z)
    (hsize : i.size = size) (hby : i.bytes = bytes) (hzs : z.cells.size = size) (hsz : 0 < size)
    (v : Value) (n : Nat) (xs : List Value) (hs : a.eval s = v) (hown : w.ownsRow base e size v n xs)
    (ad : Addr) (m c : Nat) (news : List Value) (hx : a.eval x = .slice (some ad) m c) (hl : news.length = m * size) (hnews : ∀ j u, news[j]? = some u → w.cell? (ad.add j) = some u) (h1 : ∀ u ∈ news, u.oneCell' = true)
    (h63 : n + m ≤ maxLen) (hbytes : (n + m) * bytes ≤ 140737488355328) (hbase : base ≤ w.heap.size)
    (h : ∀ v' w', w'.ownsRow base e size v' (n + m) (xs ++ news) → w.grownBy w' v.ownBlock → (v'.ownBlock = v.ownBlock ∨ v'.ownBlock = some w.heap.size) → K (a.put o.dst v') w') :
    if Region.wanted o (yielded ops a.tmps) = true then Oper.wp P o a w K Q else E := by
  have hw : Region.wanted o (yielded ops a.tmps) = true := by simp [Region.wanted, hg]
  rw [if_pos hw]
  obtain ⟨v', w', hr, h2, h3, _, h5⟩ := run_append_own_at (P := P) w base t o.type e i z size bytes ht hi hz hsize hby hzs hsz v n xs hown ad m c news hl hnews h1 h63 hbytes hbase
  unfold Oper.wp execOp
  simp only [hop, resolve, invoke, builtin, Sem.run_bind, Sem.run_pure, Result.andThen_ok, List.map_toArray, List.map_cons, List.map_nil, hs, hx, hr]
  exact h v' w' h2 h3 h5
end Go.Proofs.YtldcbabgommghaaGreatDoor

/- A round of the copy of a request's inner ones. No Go function is walked here. -/
namespace Go.Proofs.YtldcbabgommghaaGreatDoor
open Go.RowKit
set_option maxRecDepth 8000

theorem row_shape {w : World} {base : Nat} {t : TypeId} {z : Nat} {v : Value} {n : Nat} {xs : List Value} (h : w.ownsRow base t z v n xs) : ∃ ao n c, v = .slice ao n c := by
  rcases h.2 with ⟨rfl, _⟩ | ⟨g, cap, cur, rfl, _⟩
  · exact ⟨_, _, _, rfl⟩
  · exact ⟨_, _, _, rfl⟩

/-- A round of the copy of a request's inner ones: what stands behind it. -/
theorem copy_round {w U wr w5 w6 : World} {B k n : Nat} {t : TypeId} {IN cs : Array Value} {ops : Fin n → Rq} {vo v' : Value} {es : List (List Value)} {ds : List Value} {o : Obj}
    (hB : w.heap.size + 3 ≤ B) (hBw : B ≤ wr.heap.size) (hk : k < n) (hes : es.length = k) (hC : CS w wr IN cs) (hK : Kept U wr (fun j => j = w.heap.size + 2 ∨ B ≤ j)) (hvo : ∀ q, vo.ownBlock = some q → B ≤ q ∧ q < wr.heap.size)
    (hel : ∀ j (hj : j < es.length) (hn : j < n), RqIn wr (fun q => B ≤ q ∧ q < wr.heap.size ∧ vo.ownBlock ≠ some q) es[j] (ops ⟨j, hn⟩))
    (b5 : Below wr.heap.size wr w5) (hr5 : RqIn w5 (fun q => wr.heap.size ≤ q ∧ q < w5.heap.size) ds (ops ⟨k, hk⟩))
    (hgrow : (w5.alloc o).grownBy w6 vo.ownBlock) (hat : v'.ownBlock = vo.ownBlock ∨ v'.ownBlock = some (w5.alloc o).heap.size) (hown' : w6.ownsRow B t 11 v' (k + 1) (es.flatten ++ ds)) :
    CS w (w6.setCell ⟨w.heap.size + 2, 10, none⟩ v') IN (cs.setIfInBounds 10 v') ∧ Kept U (w6.setCell ⟨w.heap.size + 2, 10, none⟩ v') (fun j => j = w.heap.size + 2 ∨ B ≤ j) ∧
      (w6.setCell ⟨w.heap.size + 2, 10, none⟩ v').ownsRow B t 11 v' (k + 1) (es ++ [ds]).flatten ∧
      ∀ j (hj : j < (es ++ [ds]).length) (hn : j < n), RqIn (w6.setCell ⟨w.heap.size + 2, 10, none⟩ v') (fun q => B ≤ q ∧ q < (w6.setCell ⟨w.heap.size + 2, 10, none⟩ v').heap.size ∧ v'.ownBlock ≠ some q) (es ++ [ds])[j] (ops ⟨j, hn⟩) := by
  have h5 := b5.size
  have h6 := hgrow.size
  simp at h6
  have hsz : (w6.setCell ⟨w.heap.size + 2, 10, none⟩ v').heap.size = w6.heap.size := by simp [World.setCell]
  have hat' : ∀ q, v'.ownBlock = some q → (vo.ownBlock = some q) ∨ q = w5.heap.size + 1 - 0 := fun q hq => by
    rcases hat with h | h
    · exact .inl (by rw [← h]; exact hq)
    · rw [hq] at h; simp at h; exact .inr (by omega)
  have K5 : Kept w5 w6 (fun q => vo.ownBlock = some q) := ((Kept.refl w5 (fun q => vo.ownBlock = some q)).alloc o).grown hgrow (fun q _ h => h)
  have K6 : Kept w6 (w6.setCell ⟨w.heap.size + 2, 10, none⟩ v') (fun q => q = w.heap.size + 2) := (Kept.refl w6 (fun q => q = w.heap.size + 2)).setCell _ _ (fun _ => rfl)
  have Kr : Kept wr w6 (fun q => wr.heap.size ≤ q ∨ vo.ownBlock = some q) := ((Below.kept b5).mono (fun q _ h => Or.inl h)).trans K5 (fun q _ h => .inr h)
  have Kw : Kept wr (w6.setCell ⟨w.heap.size + 2, 10, none⟩ v') (fun q => wr.heap.size ≤ q ∨ vo.ownBlock = some q ∨ q = w.heap.size + 2) := (Kr.mono (fun q _ h => h.elim .inl (fun h => .inr (.inl h)))).trans K6 (fun q _ h => .inr (.inr h))
  have K56 : Kept w5 (w6.setCell ⟨w.heap.size + 2, 10, none⟩ v') (fun q => vo.ownBlock = some q ∨ q = w.heap.size + 2) := (K5.mono (fun q _ h => Or.inl h)).trans K6 (fun q _ h => .inr h)
  refine ⟨(hC.kept Kr (fun q h => ?_)).set 10 v', hK.trans Kw (fun q _ h => ?_), ?_, fun j hj hn => ?_⟩
  · rcases h with h | h
    · omega
    · have := hvo q h; omega
  · rcases h with h | h | h
    · exact .inr (by omega)
    · exact .inr (hvo q h).1
    · exact .inl h
  · rw [List.flatten_append]
    simp only [List.flatten_cons, List.flatten_nil, List.append_nil]
    exact ownsRow_kept hown' K6 (fun q hq e => by have := (hown'.lt q hq).1; omega)
  · by_cases hjk : j < es.length
    · rw [List.getElem_append_left hjk]
      refine RqIn.kept Kw (fun q hq => ⟨fun h => ?_, hq.1, by omega, fun e => ?_⟩) (hel j hjk hn)
      · rcases h with h | h | h
        · omega
        · exact hq.2.2 h
        · omega
      · rcases hat' q e with h | h
        · exact hq.2.2 h
        · omega
    · have hj' : j = k := by simp at hj; omega
      subst hj'
      have hget : (es ++ [ds])[j] = ds := by
        rw [List.getElem_append_right (by omega)]
        simp [hes]
      rw [hget]
      refine RqIn.kept K56 (fun q hq => ⟨fun h => ?_, by omega, by omega, fun e => ?_⟩) hr5
      · rcases h with h | h
        · have := hvo q h; omega
        · omega
      · rcases hat' q e with h | h
        · have := hvo q h; omega
        · omega

end Go.Proofs.YtldcbabgommghaaGreatDoor
