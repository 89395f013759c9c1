/- A list in memory of one's own: make and copy of elements of several cells; txn.copied at bytes, entries, ids and requests. -/
import Derived.Test.YtoeialngbbfoeaaGreatDoorCopyXJ
import Derived.Laws.CopyRow
import Derived.Laws.CopyOwn
import Derived.Laws.MakeOwn
import Derived.Laws.IdiomCopy
import Derived.Lib.SliceRun
import Derived.Test.YtoeialngbbfoeaaGreatDoorCopyRJ
import Derived.Deep.RegionHeld
namespace Go.Proofs.YtoeialngbbfoeaaGreatDoor
open Go.RowKit
set_option maxRecDepth 8000

/-- copy of elements of z cells into a row from its beginning. -/
theorem run_copy_z {P : Program} (w : World) (dT sT ty elem : TypeId) (z g dLen dCap : Nat) (a : Addr) (sLen sCap : Nat) (cur : Array Value) (t : TypeId) (cs : List Value)
    (hu : P.underlying dT = some (.slice elem)) (hs : (P.info? elem).map (·.size) = some z)
    (hg : w.heap[g]? = some (.cells cur t (0, 0))) (hn : cs.length = Nat.min sLen dLen * z)
    (hsrc : ∀ j v, cs[j]? = some v → w.cell? (a.add j) = some v) (hfit : cs.length ≤ cur.size) (h1 : ∀ v ∈ cs, v.oneCell' = true) :
    (Builtin.copy_ #[dT, sT] ty #[.slice (some ⟨g, 0, none⟩) dLen dCap, .slice (some a) sLen sCap]).run P w =
      .ok (goInt (Nat.min sLen dLen)) (w.setRow g (cs ++ cur.toList.drop cs.length).toArray) := by
  have hl := run_loadCells_list (P := P) w a cs hsrc
  have hst := run_storeCells_at P g 0 t cs 0 cur w hg (by simpa using hfit) h1
  cases hq : P.info? elem with
  | none => simp [hq] at hs
  | some i =>
    have hi : i.size = z := by simpa [hq] using hs
    simp [Builtin.copy_, run_underlying hu, Builtin.lenOf, Builtin.firstCells, sizeOf, typeInfo, hq, hi, ← hn, hl, hst]

theorem run_copy_zero {P : Program} (w : World) (dT sT ty elem : TypeId) (z : Nat) (d a : Option Addr) (dLen dCap sLen sCap : Nat) (hu : P.underlying dT = some (.slice elem)) (hs : (P.info? elem).map (·.size) = some z) (hn : Nat.min sLen dLen = 0) :
    (Builtin.copy_ #[dT, sT] ty #[.slice d dLen dCap, .slice a sLen sCap]).run P w = .ok (goInt 0) w := by
  cases hq : P.info? elem with
  | none => simp [hq] at hs
  | some i =>
    have hl : ∀ (x : Addr), (loadCells x 0).run P w = .ok #[] w := fun x => by simpa using run_loadCells_list (P := P) w x [] (by simp)
    cases d <;> cases a <;> simp [Builtin.copy_, run_underlying hu, Builtin.lenOf, Builtin.firstCells, sizeOf, typeInfo, hq, hn, storeCells, hl]

/-- A place among elements of z cells, laid one behind the other. -/
theorem clFlat_at (z : Nat) : ∀ (cs : List (List Value)), (∀ c ∈ cs, c.length = z) → ∀ (k : Nat) (v : Value), cs.flatten[k]? = some v → ∃ i j, ∃ (h : i < cs.length), j < z ∧ k = i * z + j ∧ cs[i].getD j (.bool false) = v
  | [], _, k, v, h => by simp at h
  | c :: cs, hz, k, v, h => by
    have hc := hz c (by simp)
    rw [List.flatten_cons] at h
    by_cases hk : k < c.length
    · rw [List.getElem?_append_left hk] at h
      exact ⟨0, k, by simp, by omega, by simp, by simp [List.getD_eq_getElem?_getD, h]⟩
    · rw [List.getElem?_append_right (by omega)] at h
      obtain ⟨i, j, hi, hj, e, hv⟩ := clFlat_at z cs (fun c hc => hz c (by simp [hc])) _ v h
      refine ⟨i + 1, j, by simpa using hi, hj, ?_, by simpa using hv⟩
      rw [Nat.add_mul, Nat.one_mul]
      omega

theorem clFlat_len (z : Nat) : ∀ (cs : List (List Value)), (∀ c ∈ cs, c.length = z) → cs.flatten.length = cs.length * z
  | [], _ => by simp
  | c :: cs, hz => by
    rw [List.flatten_cons, List.length_append, hz c (by simp), clFlat_len z cs (fun c hc => hz c (by simp [hc])), List.length_cons, Nat.add_mul, Nat.one_mul]
    omega

theorem clFlat_src {w : World} {b off z : Nat} {cs : List (List Value)} (hz : ∀ c ∈ cs, c.length = z) (h : ∀ i (hi : i < cs.length) j, j < z → w.cell? ⟨b, off + i * z + j, none⟩ = some (cs[i].getD j (.bool false))) :
    ∀ k v, cs.flatten[k]? = some v → w.cell? ((⟨b, off, none⟩ : Addr).add k) = some v := by
  intro k v hk
  obtain ⟨i, j, hi, hj, rfl, rfl⟩ := clFlat_at z cs hz k v hk
  have := h i hi j hj
  rw [Nat.add_assoc] at this
  rw [Addr.add_lit]
  exact this

set_option maxHeartbeats 400000 in
theorem copiedRq_any (v : Value) (cs : List (List Value)) (w : World) (h : SeesR w v 11 cs) (hz : ∀ c ∈ cs, c.length = 11) (h1 : ∀ c ∈ cs, ∀ u ∈ c, u.oneCell' = true) (hl : cs.length ≤ 1000000) :
    Calls Tryz.prog 77 #[v] w fun e w' => ∃ v', e = .returned v' ∧ w'.ownsRow w.heap.size 33 11 v' cs.length cs.flatten ∧ Below w.heap.size w w' := by
  obtain ⟨ao, cap, rfl, hc1, hc2, hc0, h3⟩ := h
  unfold maxLen at hc2
  cases ao with
  | none =>
    have hc := hc0 rfl
    have hcs : cs = [] := List.eq_nil_of_length_eq_zero (by omega)
    subst hcs
    subst hc
    have heq : ∀ w, (binOp .eql 31 (.slice none 0 0) (.slice none 0 0)).run Tryz.prog w = .ok (.bool true) w := fun w => Lib.run_eql_slice_nil w 31 33 none 0 0 0 0 Tryz.underlying31
    have HN : Hid (w.ownsRow w.heap.size 33 11 (.slice none 0 0) 0 []) := World.ownsRow_nil _ _ _ _
    go_enter Tryz.func77, Tryz.ntmps77
    go_wp2_with fail
    go_ret
    exact ⟨_, rfl, HN.out, Below.refl _ _⟩
  | some a =>
    have heq : ∀ w, (binOp .eql 31 (.slice (some a) cs.length cap) (.slice none 0 0)).run Tryz.prog w = .ok (.bool false) w := fun w => Lib.run_eql_slice_nil w 31 33 (some a) cs.length cap 0 0 Tryz.underlying31
    obtain ⟨i0, hi, hz0, hz1, hz2⟩ := info_parts Tryz.infoRq
    have hmk := run_make (w := w) (P := Tryz.prog) 31 33 i0 _ Tryz.underlying31 hi hz0 .i64 .i64 cs.length cs.length (by omega) (Int.le_refl _) (by rw [hz2]; omega) (by omega)
    simp only [Int.toNat_natCast, hz1] at hmk
    obtain ⟨Z, hZ⟩ : ∃ Z, Z = madeCells (Value.agg rqZ).cells (cs.length * 11) := ⟨_, rfl⟩
    rw [← hZ] at hmk
    have hZs : Z.size = cs.length * 11 := by rw [hZ]; exact size_madeCells _ _
    have hfl := clFlat_len 11 cs hz
    have hg := heap_alloc_new w (.cells Z 33)
    have hsz : (Tryz.prog.info? 33).map (·.size) = some 11 := by rw [hi]; simp [hz1]
    have hone : ∀ u ∈ cs.flatten, u.oneCell' = true := fun u hu => by
      obtain ⟨c, hc, hu⟩ := List.mem_flatten.1 hu
      exact h1 c hc u hu
    obtain ⟨W1, hcp, hW1⟩ : ∃ W1, (∀ ty, (Builtin.copy_ #[31, 31] ty #[.slice (some ⟨w.heap.size, 0, none⟩) cs.length cs.length, .slice (some a) cs.length cap]).run Tryz.prog (w.alloc (.cells Z 33)) = .ok (goInt cs.length) W1) ∧ Hid (W1.heap[w.heap.size]? = some (.cells cs.flatten.toArray 33 (0, 0)) ∧ Below w.heap.size w W1) := by
      have hb : Below w.heap.size w (w.alloc (.cells Z 33)) := (Below.refl _ _).alloc (Nat.le_refl _) _
      rcases h3 with h3 | ⟨b, off, e, h3⟩
      · subst h3
        have hZ0 : Z = #[] := Array.eq_empty_of_size_eq_zero (by simpa using hZs)
        refine ⟨w.alloc (.cells Z 33), fun ty => ?_, ?_, hb⟩
        · exact run_copy_zero (P := Tryz.prog) _ 31 31 ty 33 11 _ _ 0 0 0 cap Tryz.underlying31 hsz rfl
        · rw [hg, hZ0]; rfl
      · cases e
        refine ⟨(w.alloc (.cells Z 33)).setRow w.heap.size (cs.flatten ++ Z.toList.drop cs.flatten.length).toArray, fun ty => ?_, ?_, below_setRow hb (Nat.le_refl _) _⟩
        · have := run_copy_z (P := Tryz.prog) (w.alloc (.cells Z 33)) 31 31 ty 33 11 w.heap.size cs.length cs.length ⟨b, off, none⟩ cs.length cap Z 33 cs.flatten Tryz.underlying31 hsz hg (by rw [hfl]; simp) (fun k v hk => cell_later (clFlat_src hz h3 k v hk) hb (Nat.le_refl _)) (by omega) hone
          rw [show Nat.min cs.length cs.length = cs.length from Nat.min_self _] at this
          exact this
        · rw [setRow_heap _ _ _ _ _ _ hg]
          congr 2
          rw [List.drop_eq_nil_of_le (by rw [Array.length_toList]; omega)]
          simp
    have HZ : Hid (W1.ownsRow w.heap.size 33 11 (.slice (some ⟨w.heap.size, 0, none⟩) cs.length cs.length) cs.length cs.flatten ∧ Below w.heap.size w W1) := by
      refine ⟨⟨hfl, .inr ⟨w.heap.size, cs.length, cs.flatten.toArray, rfl, Nat.le_refl _, hW1.out.1, Nat.le_refl _, by unfold maxLen; omega, by simpa using hfl, ?_⟩⟩, hW1.out.2⟩
      simp [List.take_of_length_le, hfl]
    clear hZ hg hone hsz hW1 hz hfl h3 hi hz0 hz1 hz2 hZs
    go_enter Tryz.func77, Tryz.ntmps77
    go_wp2_with fail
    go_ret
    exact ⟨_, rfl, HZ.out⟩

theorem Tryz.infoEnC : (Tryz.prog.info? 105).map (fun i => (i.zero, i.size, i.bytes)) = some (some (.agg #[.int .i8 0, .string ⟨#[]⟩, .string ⟨#[]⟩]), 3, 40) := by kernel_rfl

set_option maxHeartbeats 400000 in
theorem copiedEn_any (v : Value) (cs : List (List Value)) (w : World) (h : SeesR w v 3 cs) (hz : ∀ c ∈ cs, c.length = 3) (h1 : ∀ c ∈ cs, ∀ u ∈ c, u.oneCell' = true) (hl : cs.length ≤ 1000000) :
    Calls Tryz.prog 75 #[v] w fun e w' => ∃ v', e = .returned v' ∧ w'.ownsRow w.heap.size 105 3 v' cs.length cs.flatten ∧ Below w.heap.size w w' := by
  obtain ⟨ao, cap, rfl, hc1, hc2, hc0, h3⟩ := h
  unfold maxLen at hc2
  cases ao with
  | none =>
    have hc := hc0 rfl
    have hcs : cs = [] := List.eq_nil_of_length_eq_zero (by omega)
    subst hcs
    subst hc
    have heq : ∀ w, (binOp .eql 29 (.slice none 0 0) (.slice none 0 0)).run Tryz.prog w = .ok (.bool true) w := fun w => Lib.run_eql_slice_nil w 29 105 none 0 0 0 0 Tryz.underlying29
    have HN : Hid (w.ownsRow w.heap.size 105 3 (.slice none 0 0) 0 []) := World.ownsRow_nil _ _ _ _
    go_enter Tryz.func75, Tryz.ntmps75
    go_wp2_with fail
    go_ret
    exact ⟨_, rfl, HN.out, Below.refl _ _⟩
  | some a =>
    have heq : ∀ w, (binOp .eql 29 (.slice (some a) cs.length cap) (.slice none 0 0)).run Tryz.prog w = .ok (.bool false) w := fun w => Lib.run_eql_slice_nil w 29 105 (some a) cs.length cap 0 0 Tryz.underlying29
    obtain ⟨i0, hi, hz0, hz1, hz2⟩ := info_parts Tryz.infoEnC
    have hmk := run_make (w := w) (P := Tryz.prog) 29 105 i0 _ Tryz.underlying29 hi hz0 .i64 .i64 cs.length cs.length (by omega) (Int.le_refl _) (by rw [hz2]; omega) (by omega)
    simp only [Int.toNat_natCast, hz1] at hmk
    obtain ⟨Z, hZ⟩ : ∃ Z, Z = madeCells (Value.agg #[.int .i8 0, .string ⟨#[]⟩, .string ⟨#[]⟩]).cells (cs.length * 3) := ⟨_, rfl⟩
    rw [← hZ] at hmk
    have hZs : Z.size = cs.length * 3 := by rw [hZ]; exact size_madeCells _ _
    have hfl := clFlat_len 3 cs hz
    have hg := heap_alloc_new w (.cells Z 105)
    have hsz : (Tryz.prog.info? 105).map (·.size) = some 3 := by rw [hi]; simp [hz1]
    have hone : ∀ u ∈ cs.flatten, u.oneCell' = true := fun u hu => by
      obtain ⟨c, hc, hu⟩ := List.mem_flatten.1 hu
      exact h1 c hc u hu
    obtain ⟨W1, hcp, hW1⟩ : ∃ W1, (∀ ty, (Builtin.copy_ #[29, 29] ty #[.slice (some ⟨w.heap.size, 0, none⟩) cs.length cs.length, .slice (some a) cs.length cap]).run Tryz.prog (w.alloc (.cells Z 105)) = .ok (goInt cs.length) W1) ∧ Hid (W1.heap[w.heap.size]? = some (.cells cs.flatten.toArray 105 (0, 0)) ∧ Below w.heap.size w W1) := by
      have hb : Below w.heap.size w (w.alloc (.cells Z 105)) := (Below.refl _ _).alloc (Nat.le_refl _) _
      rcases h3 with h3 | ⟨b, off, e, h3⟩
      · subst h3
        have hZ0 : Z = #[] := Array.eq_empty_of_size_eq_zero (by simpa using hZs)
        refine ⟨w.alloc (.cells Z 105), fun ty => ?_, ?_, hb⟩
        · exact run_copy_zero (P := Tryz.prog) _ 29 29 ty 105 3 _ _ 0 0 0 cap Tryz.underlying29 hsz rfl
        · rw [hg, hZ0]; rfl
      · cases e
        refine ⟨(w.alloc (.cells Z 105)).setRow w.heap.size (cs.flatten ++ Z.toList.drop cs.flatten.length).toArray, fun ty => ?_, ?_, below_setRow hb (Nat.le_refl _) _⟩
        · have := run_copy_z (P := Tryz.prog) (w.alloc (.cells Z 105)) 29 29 ty 105 3 w.heap.size cs.length cs.length ⟨b, off, none⟩ cs.length cap Z 105 cs.flatten Tryz.underlying29 hsz hg (by rw [hfl]; simp) (fun k v hk => cell_later (clFlat_src hz h3 k v hk) hb (Nat.le_refl _)) (by omega) hone
          rw [show Nat.min cs.length cs.length = cs.length from Nat.min_self _] at this
          exact this
        · rw [setRow_heap _ _ _ _ _ _ hg]
          congr 2
          rw [List.drop_eq_nil_of_le (by rw [Array.length_toList]; omega)]
          simp
    have HZ : Hid (W1.ownsRow w.heap.size 105 3 (.slice (some ⟨w.heap.size, 0, none⟩) cs.length cs.length) cs.length cs.flatten ∧ Below w.heap.size w W1) := by
      refine ⟨⟨hfl, .inr ⟨w.heap.size, cs.length, cs.flatten.toArray, rfl, Nat.le_refl _, hW1.out.1, Nat.le_refl _, by unfold maxLen; omega, by simpa using hfl, ?_⟩⟩, hW1.out.2⟩
      simp [List.take_of_length_le, hfl]
    clear hZ hg hone hsz hW1 hz hfl h3 hi hz0 hz1 hz2 hZs
    go_enter Tryz.func75, Tryz.ntmps75
    go_wp2_with fail
    go_ret
    exact ⟨_, rfl, HZ.out⟩

theorem Tryz.infoIdC : (Tryz.prog.info? 103).map (fun i => (i.zero, i.size, i.bytes)) = some (some (.agg #[.string ⟨#[]⟩, .string ⟨#[]⟩]), 2, 32) := by kernel_rfl

set_option maxHeartbeats 400000 in
theorem copiedId_any (v : Value) (cs : List (List Value)) (w : World) (h : SeesR w v 2 cs) (hz : ∀ c ∈ cs, c.length = 2) (h1 : ∀ c ∈ cs, ∀ u ∈ c, u.oneCell' = true) (hl : cs.length ≤ 1000000) :
    Calls Tryz.prog 76 #[v] w fun e w' => ∃ v', e = .returned v' ∧ w'.ownsRow w.heap.size 103 2 v' cs.length cs.flatten ∧ Below w.heap.size w w' := by
  obtain ⟨ao, cap, rfl, hc1, hc2, hc0, h3⟩ := h
  unfold maxLen at hc2
  cases ao with
  | none =>
    have hc := hc0 rfl
    have hcs : cs = [] := List.eq_nil_of_length_eq_zero (by omega)
    subst hcs
    subst hc
    have heq : ∀ w, (binOp .eql 30 (.slice none 0 0) (.slice none 0 0)).run Tryz.prog w = .ok (.bool true) w := fun w => Lib.run_eql_slice_nil w 30 103 none 0 0 0 0 Tryz.underlying30
    have HN : Hid (w.ownsRow w.heap.size 103 2 (.slice none 0 0) 0 []) := World.ownsRow_nil _ _ _ _
    go_enter Tryz.func76, Tryz.ntmps76
    go_wp2_with fail
    go_ret
    exact ⟨_, rfl, HN.out, Below.refl _ _⟩
  | some a =>
    have heq : ∀ w, (binOp .eql 30 (.slice (some a) cs.length cap) (.slice none 0 0)).run Tryz.prog w = .ok (.bool false) w := fun w => Lib.run_eql_slice_nil w 30 103 (some a) cs.length cap 0 0 Tryz.underlying30
    obtain ⟨i0, hi, hz0, hz1, hz2⟩ := info_parts Tryz.infoIdC
    have hmk := run_make (w := w) (P := Tryz.prog) 30 103 i0 _ Tryz.underlying30 hi hz0 .i64 .i64 cs.length cs.length (by omega) (Int.le_refl _) (by rw [hz2]; omega) (by omega)
    simp only [Int.toNat_natCast, hz1] at hmk
    obtain ⟨Z, hZ⟩ : ∃ Z, Z = madeCells (Value.agg #[.string ⟨#[]⟩, .string ⟨#[]⟩]).cells (cs.length * 2) := ⟨_, rfl⟩
    rw [← hZ] at hmk
    have hZs : Z.size = cs.length * 2 := by rw [hZ]; exact size_madeCells _ _
    have hfl := clFlat_len 2 cs hz
    have hg := heap_alloc_new w (.cells Z 103)
    have hsz : (Tryz.prog.info? 103).map (·.size) = some 2 := by rw [hi]; simp [hz1]
    have hone : ∀ u ∈ cs.flatten, u.oneCell' = true := fun u hu => by
      obtain ⟨c, hc, hu⟩ := List.mem_flatten.1 hu
      exact h1 c hc u hu
    obtain ⟨W1, hcp, hW1⟩ : ∃ W1, (∀ ty, (Builtin.copy_ #[30, 30] ty #[.slice (some ⟨w.heap.size, 0, none⟩) cs.length cs.length, .slice (some a) cs.length cap]).run Tryz.prog (w.alloc (.cells Z 103)) = .ok (goInt cs.length) W1) ∧ Hid (W1.heap[w.heap.size]? = some (.cells cs.flatten.toArray 103 (0, 0)) ∧ Below w.heap.size w W1) := by
      have hb : Below w.heap.size w (w.alloc (.cells Z 103)) := (Below.refl _ _).alloc (Nat.le_refl _) _
      rcases h3 with h3 | ⟨b, off, e, h3⟩
      · subst h3
        have hZ0 : Z = #[] := Array.eq_empty_of_size_eq_zero (by simpa using hZs)
        refine ⟨w.alloc (.cells Z 103), fun ty => ?_, ?_, hb⟩
        · exact run_copy_zero (P := Tryz.prog) _ 30 30 ty 103 2 _ _ 0 0 0 cap Tryz.underlying30 hsz rfl
        · rw [hg, hZ0]; rfl
      · cases e
        refine ⟨(w.alloc (.cells Z 103)).setRow w.heap.size (cs.flatten ++ Z.toList.drop cs.flatten.length).toArray, fun ty => ?_, ?_, below_setRow hb (Nat.le_refl _) _⟩
        · have := run_copy_z (P := Tryz.prog) (w.alloc (.cells Z 103)) 30 30 ty 103 2 w.heap.size cs.length cs.length ⟨b, off, none⟩ cs.length cap Z 103 cs.flatten Tryz.underlying30 hsz hg (by rw [hfl]; simp) (fun k v hk => cell_later (clFlat_src hz h3 k v hk) hb (Nat.le_refl _)) (by omega) hone
          rw [show Nat.min cs.length cs.length = cs.length from Nat.min_self _] at this
          exact this
        · rw [setRow_heap _ _ _ _ _ _ hg]
          congr 2
          rw [List.drop_eq_nil_of_le (by rw [Array.length_toList]; omega)]
          simp
    have HZ : Hid (W1.ownsRow w.heap.size 103 2 (.slice (some ⟨w.heap.size, 0, none⟩) cs.length cs.length) cs.length cs.flatten ∧ Below w.heap.size w W1) := by
      refine ⟨⟨hfl, .inr ⟨w.heap.size, cs.length, cs.flatten.toArray, rfl, Nat.le_refl _, hW1.out.1, Nat.le_refl _, by unfold maxLen; omega, by simpa using hfl, ?_⟩⟩, hW1.out.2⟩
      simp [List.take_of_length_le, hfl]
    clear hZ hg hone hsz hW1 hz hfl h3 hi hz0 hz1 hz2 hZs
    go_enter Tryz.func76, Tryz.ntmps76
    go_wp2_with fail
    go_ret
    exact ⟨_, rfl, HZ.out⟩

theorem Tryz.infoByC : (Tryz.prog.info? 5).map (fun i => (i.zero, i.size, i.bytes)) = some (some (.int .u8 0), 1, 1) := by kernel_rfl

set_option maxHeartbeats 400000 in
theorem copiedBy_any (v : Value) (cs : List (List Value)) (w : World) (h : SeesR w v 1 cs) (hz : ∀ c ∈ cs, c.length = 1) (h1 : ∀ c ∈ cs, ∀ u ∈ c, u.oneCell' = true) (hl : cs.length ≤ 1000000) :
    Calls Tryz.prog 74 #[v] w fun e w' => ∃ v', e = .returned v' ∧ w'.ownsRow w.heap.size 5 1 v' cs.length cs.flatten ∧ Below w.heap.size w w' := by
  obtain ⟨ao, cap, rfl, hc1, hc2, hc0, h3⟩ := h
  unfold maxLen at hc2
  cases ao with
  | none =>
    have hc := hc0 rfl
    have hcs : cs = [] := List.eq_nil_of_length_eq_zero (by omega)
    subst hcs
    subst hc
    have heq : ∀ w, (binOp .eql 28 (.slice none 0 0) (.slice none 0 0)).run Tryz.prog w = .ok (.bool true) w := fun w => Lib.run_eql_slice_nil w 28 5 none 0 0 0 0 Tryz.underlying28
    have HN : Hid (w.ownsRow w.heap.size 5 1 (.slice none 0 0) 0 []) := World.ownsRow_nil _ _ _ _
    go_enter Tryz.func74, Tryz.ntmps74
    go_wp2_with fail
    go_ret
    exact ⟨_, rfl, HN.out, Below.refl _ _⟩
  | some a =>
    have heq : ∀ w, (binOp .eql 28 (.slice (some a) cs.length cap) (.slice none 0 0)).run Tryz.prog w = .ok (.bool false) w := fun w => Lib.run_eql_slice_nil w 28 5 (some a) cs.length cap 0 0 Tryz.underlying28
    obtain ⟨i0, hi, hz0, hz1, hz2⟩ := info_parts Tryz.infoByC
    have hmk := run_make (w := w) (P := Tryz.prog) 28 5 i0 _ Tryz.underlying28 hi hz0 .i64 .i64 cs.length cs.length (by omega) (Int.le_refl _) (by rw [hz2]; omega) (by omega)
    simp only [Int.toNat_natCast, hz1] at hmk
    obtain ⟨Z, hZ⟩ : ∃ Z, Z = madeCells (Value.int .u8 0).cells (cs.length * 1) := ⟨_, rfl⟩
    rw [← hZ] at hmk
    have hZs : Z.size = cs.length * 1 := by rw [hZ]; exact size_madeCells _ _
    have hfl := clFlat_len 1 cs hz
    have hg := heap_alloc_new w (.cells Z 5)
    have hsz : (Tryz.prog.info? 5).map (·.size) = some 1 := by rw [hi]; simp [hz1]
    have hone : ∀ u ∈ cs.flatten, u.oneCell' = true := fun u hu => by
      obtain ⟨c, hc, hu⟩ := List.mem_flatten.1 hu
      exact h1 c hc u hu
    obtain ⟨W1, hcp, hW1⟩ : ∃ W1, (∀ ty, (Builtin.copy_ #[28, 28] ty #[.slice (some ⟨w.heap.size, 0, none⟩) cs.length cs.length, .slice (some a) cs.length cap]).run Tryz.prog (w.alloc (.cells Z 5)) = .ok (goInt cs.length) W1) ∧ Hid (W1.heap[w.heap.size]? = some (.cells cs.flatten.toArray 5 (0, 0)) ∧ Below w.heap.size w W1) := by
      have hb : Below w.heap.size w (w.alloc (.cells Z 5)) := (Below.refl _ _).alloc (Nat.le_refl _) _
      rcases h3 with h3 | ⟨b, off, e, h3⟩
      · subst h3
        have hZ0 : Z = #[] := Array.eq_empty_of_size_eq_zero (by simpa using hZs)
        refine ⟨w.alloc (.cells Z 5), fun ty => ?_, ?_, hb⟩
        · exact run_copy_zero (P := Tryz.prog) _ 28 28 ty 5 1 _ _ 0 0 0 cap Tryz.underlying28 hsz rfl
        · rw [hg, hZ0]; rfl
      · cases e
        refine ⟨(w.alloc (.cells Z 5)).setRow w.heap.size (cs.flatten ++ Z.toList.drop cs.flatten.length).toArray, fun ty => ?_, ?_, below_setRow hb (Nat.le_refl _) _⟩
        · have := run_copy_z (P := Tryz.prog) (w.alloc (.cells Z 5)) 28 28 ty 5 1 w.heap.size cs.length cs.length ⟨b, off, none⟩ cs.length cap Z 5 cs.flatten Tryz.underlying28 hsz hg (by rw [hfl]; simp) (fun k v hk => cell_later (clFlat_src hz h3 k v hk) hb (Nat.le_refl _)) (by omega) hone
          rw [show Nat.min cs.length cs.length = cs.length from Nat.min_self _] at this
          exact this
        · rw [setRow_heap _ _ _ _ _ _ hg]
          congr 2
          rw [List.drop_eq_nil_of_le (by rw [Array.length_toList]; omega)]
          simp
    have HZ : Hid (W1.ownsRow w.heap.size 5 1 (.slice (some ⟨w.heap.size, 0, none⟩) cs.length cs.length) cs.length cs.flatten ∧ Below w.heap.size w W1) := by
      refine ⟨⟨hfl, .inr ⟨w.heap.size, cs.length, cs.flatten.toArray, rfl, Nat.le_refl _, hW1.out.1, Nat.le_refl _, by unfold maxLen; omega, by simpa using hfl, ?_⟩⟩, hW1.out.2⟩
      simp [List.take_of_length_le, hfl]
    clear hZ hg hone hsz hW1 hz hfl h3 hi hz0 hz1 hz2 hZs
    go_enter Tryz.func74, Tryz.ntmps74
    go_wp2_with fail
    go_ret
    exact ⟨_, rfl, HZ.out⟩

end Go.Proofs.YtoeialngbbfoeaaGreatDoor

/- txn.cloneRequest: the same request in blocks of its own. -/
namespace Go.Proofs.YtoeialngbbfoeaaGreatDoor
open Go.RowKit
set_option maxRecDepth 8000
set_option linter.unusedSimpArgs false

abbrev w11 (w : World) (g o : Nat) (c0 c1 c2 c3 c4 c5 c6 c7 c8 c9 c10 : Value) : World := (((((((((((w).setCell ⟨g, o, none⟩ c0).setCell ⟨g, o + 1, none⟩ c1).setCell ⟨g, o + 2, none⟩ c2).setCell ⟨g, o + 3, none⟩ c3).setCell ⟨g, o + 4, none⟩ c4).setCell ⟨g, o + 5, none⟩ c5).setCell ⟨g, o + 6, none⟩ c6).setCell ⟨g, o + 7, none⟩ c7).setCell ⟨g, o + 8, none⟩ c8).setCell ⟨g, o + 9, none⟩ c9).setCell ⟨g, o + 10, none⟩ c10

theorem own11C {w : World} {B g N c k : Nat} {t : TypeId} {fl : List Value} (h : w.ownsRow B t 11 (.slice (some ⟨g, 0, none⟩) N c) N fl) (c0 c1 c2 c3 c4 c5 c6 c7 c8 c9 c10 : Value) :
    (w11 w g (k * 11) c0 c1 c2 c3 c4 c5 c6 c7 c8 c9 c10).ownsRow B t 11 (.slice (some ⟨g, 0, none⟩) N c) N ((((((((((((fl).set (k * 11) c0).set (k * 11 + 1) c1).set (k * 11 + 2) c2).set (k * 11 + 3) c3).set (k * 11 + 4) c4).set (k * 11 + 5) c5).set (k * 11 + 6) c6).set (k * 11 + 7) c7).set (k * 11 + 8) c8).set (k * 11 + 9) c9).set (k * 11 + 10) c10) ∧ Kept w (w11 w g (k * 11) c0 c1 c2 c3 c4 c5 c6 c7 c8 c9 c10) (fun q => q = g) := by
  refine ⟨?_, ?_⟩
  · exact (((((((((((h.stored (k * 11) c0).1.stored (k * 11 + 1) c1).1.stored (k * 11 + 2) c2).1.stored (k * 11 + 3) c3).1.stored (k * 11 + 4) c4).1.stored (k * 11 + 5) c5).1.stored (k * 11 + 6) c6).1.stored (k * 11 + 7) c7).1.stored (k * 11 + 8) c8).1.stored (k * 11 + 9) c9).1.stored (k * 11 + 10) c10).1
  · exact ((((((((((((Kept.refl w (fun q => q = g)).setCell ⟨g, k * 11, none⟩ c0 (fun _ => rfl)).setCell ⟨g, k * 11 + 1, none⟩ c1 (fun _ => rfl)).setCell ⟨g, k * 11 + 2, none⟩ c2 (fun _ => rfl)).setCell ⟨g, k * 11 + 3, none⟩ c3 (fun _ => rfl)).setCell ⟨g, k * 11 + 4, none⟩ c4 (fun _ => rfl)).setCell ⟨g, k * 11 + 5, none⟩ c5 (fun _ => rfl)).setCell ⟨g, k * 11 + 6, none⟩ c6 (fun _ => rfl)).setCell ⟨g, k * 11 + 7, none⟩ c7 (fun _ => rfl)).setCell ⟨g, k * 11 + 8, none⟩ c8 (fun _ => rfl)).setCell ⟨g, k * 11 + 9, none⟩ c9 (fun _ => rfl)).setCell ⟨g, k * 11 + 10, none⟩ c10 (fun _ => rfl))

theorem set11C (fl : List Value) (k : Nat) (hl : k * 11 + 11 ≤ fl.length) (c0 c1 c2 c3 c4 c5 c6 c7 c8 c9 c10 : Value) :
    (∀ i j, i ≠ k → j < 11 → ((((((((((((fl).set (k * 11) c0).set (k * 11 + 1) c1).set (k * 11 + 2) c2).set (k * 11 + 3) c3).set (k * 11 + 4) c4).set (k * 11 + 5) c5).set (k * 11 + 6) c6).set (k * 11 + 7) c7).set (k * 11 + 8) c8).set (k * 11 + 9) c9).set (k * 11 + 10) c10)[i * 11 + j]? = fl[i * 11 + j]?) ∧ ∀ j, j < 11 → ((((((((((((fl).set (k * 11) c0).set (k * 11 + 1) c1).set (k * 11 + 2) c2).set (k * 11 + 3) c3).set (k * 11 + 4) c4).set (k * 11 + 5) c5).set (k * 11 + 6) c6).set (k * 11 + 7) c7).set (k * 11 + 8) c8).set (k * 11 + 9) c9).set (k * 11 + 10) c10)[k * 11 + j]? = some ([c0, c1, c2, c3, c4, c5, c6, c7, c8, c9, c10].getD j (.bool false)) := by
  refine ⟨fun i j hi hj => ?_, fun j hj => ?_⟩
  · rw [List.getElem?_set_ne (by omega), List.getElem?_set_ne (by omega), List.getElem?_set_ne (by omega), List.getElem?_set_ne (by omega), List.getElem?_set_ne (by omega), List.getElem?_set_ne (by omega), List.getElem?_set_ne (by omega), List.getElem?_set_ne (by omega), List.getElem?_set_ne (by omega), List.getElem?_set_ne (by omega), List.getElem?_set_ne (by omega)]
  · rcases (show j = 0 ∨ j = 1 ∨ j = 2 ∨ j = 3 ∨ j = 4 ∨ j = 5 ∨ j = 6 ∨ j = 7 ∨ j = 8 ∨ j = 9 ∨ j = 10 by omega) with rfl | rfl | rfl | rfl | rfl | rfl | rfl | rfl | rfl | rfl | rfl
    · simp only [Nat.add_zero]; rw [List.getElem?_set_ne (by omega), List.getElem?_set_ne (by omega), List.getElem?_set_ne (by omega), List.getElem?_set_ne (by omega), List.getElem?_set_ne (by omega), List.getElem?_set_ne (by omega), List.getElem?_set_ne (by omega), List.getElem?_set_ne (by omega), List.getElem?_set_ne (by omega), List.getElem?_set_ne (by omega), List.getElem?_set_self (by first | omega | (simp only [List.length_set]; omega))]; rfl
    · rw [List.getElem?_set_ne (by omega), List.getElem?_set_ne (by omega), List.getElem?_set_ne (by omega), List.getElem?_set_ne (by omega), List.getElem?_set_ne (by omega), List.getElem?_set_ne (by omega), List.getElem?_set_ne (by omega), List.getElem?_set_ne (by omega), List.getElem?_set_ne (by omega), List.getElem?_set_self (by first | omega | (simp only [List.length_set]; omega))]; rfl
    · rw [List.getElem?_set_ne (by omega), List.getElem?_set_ne (by omega), List.getElem?_set_ne (by omega), List.getElem?_set_ne (by omega), List.getElem?_set_ne (by omega), List.getElem?_set_ne (by omega), List.getElem?_set_ne (by omega), List.getElem?_set_ne (by omega), List.getElem?_set_self (by first | omega | (simp only [List.length_set]; omega))]; rfl
    · rw [List.getElem?_set_ne (by omega), List.getElem?_set_ne (by omega), List.getElem?_set_ne (by omega), List.getElem?_set_ne (by omega), List.getElem?_set_ne (by omega), List.getElem?_set_ne (by omega), List.getElem?_set_ne (by omega), List.getElem?_set_self (by first | omega | (simp only [List.length_set]; omega))]; rfl
    · rw [List.getElem?_set_ne (by omega), List.getElem?_set_ne (by omega), List.getElem?_set_ne (by omega), List.getElem?_set_ne (by omega), List.getElem?_set_ne (by omega), List.getElem?_set_ne (by omega), List.getElem?_set_self (by first | omega | (simp only [List.length_set]; omega))]; rfl
    · rw [List.getElem?_set_ne (by omega), List.getElem?_set_ne (by omega), List.getElem?_set_ne (by omega), List.getElem?_set_ne (by omega), List.getElem?_set_ne (by omega), List.getElem?_set_self (by first | omega | (simp only [List.length_set]; omega))]; rfl
    · rw [List.getElem?_set_ne (by omega), List.getElem?_set_ne (by omega), List.getElem?_set_ne (by omega), List.getElem?_set_ne (by omega), List.getElem?_set_self (by first | omega | (simp only [List.length_set]; omega))]; rfl
    · rw [List.getElem?_set_ne (by omega), List.getElem?_set_ne (by omega), List.getElem?_set_ne (by omega), List.getElem?_set_self (by first | omega | (simp only [List.length_set]; omega))]; rfl
    · rw [List.getElem?_set_ne (by omega), List.getElem?_set_ne (by omega), List.getElem?_set_self (by first | omega | (simp only [List.length_set]; omega))]; rfl
    · rw [List.getElem?_set_ne (by omega), List.getElem?_set_self (by first | omega | (simp only [List.length_set]; omega))]; rfl
    · rw [List.getElem?_set_self (by first | omega | (simp only [List.length_set]; omega))]; rfl

theorem Kept.transC {w w1 w2 : World} {S S1 S2 : Nat → Prop} (h : Kept w w1 S1) (g : Kept w1 w2 S2) (h1 : ∀ k, k < w.heap.size → S1 k → S k) (h2 : ∀ k, k < w.heap.size → S2 k → S k) : Kept w w2 S :=
  ⟨by rw [g.os, h.os], by rw [g.tape, h.tape], by rw [g.output, h.output], Nat.le_trans h.size g.size, fun k hk hn => by rw [g.block k (Nat.lt_of_lt_of_le hk h.size) (fun e => hn (h2 k hk e)), h.block k hk (fun e => hn (h1 k hk e))]⟩

/-- The clone's box beside the world of the call. -/
structure ClS (w W : World) (cs : List Value) : Prop where
  bel : Below w.heap.size w W
  box : W.heap[w.heap.size]? = some (.cells cs.toArray 33 (0, 0))
  res : W.heap[w.heap.size + 1]? = some (.cells rqZ 33 (0, 0))

theorem ClS.lt {w W : World} {cs : List Value} (h : ClS w W cs) : w.heap.size + 2 ≤ W.heap.size := by have := lt_of_block h.res; omega

theorem ClS.kept {w W W' : World} {cs : List Value} {S : Nat → Prop} (h : ClS w W cs) (hk : Kept W W' S) (hS : ∀ k, S k → w.heap.size + 2 ≤ k) : ClS w W' cs :=
  ⟨h.bel.trans (hk.below h.bel.size (fun k e => by have := hS k e; omega)), hk.heap h.box (fun e => by have := hS _ e; omega), hk.heap h.res (fun e => by have := hS _ e; omega)⟩
theorem ClS.later {w W W' : World} {cs : List Value} (h : ClS w W cs) (hb : Below W.heap.size W W') : ClS w W' cs := h.kept (Below.kept hb) (fun _ e => Nat.le_trans h.lt e)
theorem ClS.set {w W : World} {cs : List Value} (h : ClS w W cs) (i : Nat) (x : Value) : ClS w (W.setCell ⟨w.heap.size, i, none⟩ x) (cs.set i x) := by
  have hk : Kept W (W.setCell ⟨w.heap.size, i, none⟩ x) (fun k => k = w.heap.size) := Kept.setCell (Kept.refl _ _) ⟨w.heap.size, i, none⟩ x (fun _ => rfl)
  refine ⟨h.bel.trans (hk.below h.bel.size (fun k e => by omega)), ?_, hk.heap h.res (fun e => by omega)⟩
  have := heap_setR (i := i) x h.box
  rw [this, List.setIfInBounds_toArray]

theorem sees_R1 {w : World} {v : Value} {xs : List Int} (h : Sees w v xs) : SeesR w v 1 (xs.map fun x => [Value.int .u8 x]) := by
  obtain ⟨ao, cap, rfl, h1, h2, h0, h3⟩ := h
  refine ⟨ao, cap, by rw [List.length_map], by rw [List.length_map]; exact h1, h2, h0, ?_⟩
  rcases h3 with h3 | ⟨b, off, rfl, h3⟩
  · exact .inl (by rw [h3]; rfl)
  · refine .inr ⟨b, off, rfl, fun i hi j hj => ?_⟩
    obtain rfl : j = 0 := by omega
    rw [List.length_map] at hi
    rw [Nat.mul_one, Nat.add_zero, h3 i hi]
    simp [List.getD_eq_getElem?_getD, hi]

theorem flat_one (xs : List Int) : (xs.map fun x => [Value.int .u8 x]).flatten = xs.map (Value.int .u8) := by
  induction xs with
  | nil => rfl
  | cons a t ih => simp only [List.map_cons, List.flatten_cons, ih]; rfl

theorem copiedB_any (v : Value) (xs : List Int) (w : World) (h : Sees w v xs) (hl : xs.length ≤ 1000000) :
    Calls Tryz.prog 74 #[v] w fun e w' => ∃ v', e = .returned v' ∧ Owns w' w.heap.size v' xs ∧ Below w.heap.size w w' := by
  refine (copiedBy_any v _ w (sees_R1 h) (fun c hc => by obtain ⟨x, _, rfl⟩ := List.mem_map.1 hc; rfl) (fun c hc u hu => by obtain ⟨x, _, rfl⟩ := List.mem_map.1 hc; simp at hu; subst hu; rfl) (by rw [List.length_map]; exact hl)).mono ?_
  rintro e w' ⟨v', rfl, ho, hb⟩
  rw [flat_one, List.length_map] at ho
  exact ⟨v', rfl, ho, hb⟩
end Go.Proofs.YtoeialngbbfoeaaGreatDoor
