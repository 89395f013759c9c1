/- A list in memory of one's own: make and copy of elements of several cells; txn.copied at bytes, entries, ids and requests. -/
import Derived.Test.YtgjjcmhlmdfccaaGreatDoorCopyXJ
import Derived.Laws.CopyRow
import Derived.Laws.CopyOwn
import Derived.Laws.MakeOwn
import Derived.Laws.IdiomCopy
import Derived.Lib.SliceRun
namespace Go.Proofs.YtgjjcmhlmdfccaaGreatDoor
open Go.RowKit
set_option maxRecDepth 8000

/-- copy of elements of z cells into a row from its beginning. -/
theorem run_copy_z {P : Program} (w : World) (dT sT ty elem : TypeId) (z g dLen dCap : Nat) (a : Addr) (sLen sCap : Nat) (cur : Array Value) (t : TypeId) (cs : List Value)
    (hu : P.underlying dT = some (.slice elem)) (hs : (P.info? elem).map (·.size) = some z)
    (hg : w.heap[g]? = some (.cells cur t (0, 0))) (hn : cs.length = Nat.min sLen dLen * z)
    (hsrc : ∀ j v, cs[j]? = some v → w.cell? (a.add j) = some v) (hfit : cs.length ≤ cur.size) (h1 : ∀ v ∈ cs, v.oneCell' = true) :
    (Builtin.copy_ #[dT, sT] ty #[.slice (some ⟨g, 0, none⟩) dLen dCap, .slice (some a) sLen sCap]).run P w =
      .ok (goInt (Nat.min sLen dLen)) (w.setRow g (cs ++ cur.toList.drop cs.length).toArray) := by
  have hl := run_loadCells_list (P := P) w a cs hsrc
  have hst := run_storeCells_at P g 0 t cs 0 cur w hg (by simpa using hfit) h1
  cases hq : P.info? elem with
  | none => simp [hq] at hs
  | some i =>
    have hi : i.size = z := by simpa [hq] using hs
    simp [Builtin.copy_, run_underlying hu, Builtin.lenOf, Builtin.firstCells, sizeOf, typeInfo, hq, hi, ← hn, hl, hst]

theorem run_copy_zero {P : Program} (w : World) (dT sT ty elem : TypeId) (z : Nat) (d a : Option Addr) (dLen dCap sLen sCap : Nat) (hu : P.underlying dT = some (.slice elem)) (hs : (P.info? elem).map (·.size) = some z) (hn : Nat.min sLen dLen = 0) :
    (Builtin.copy_ #[dT, sT] ty #[.slice d dLen dCap, .slice a sLen sCap]).run P w = .ok (goInt 0) w := by
  cases hq : P.info? elem with
  | none => simp [hq] at hs
  | some i =>
    have hl : ∀ (x : Addr), (loadCells x 0).run P w = .ok #[] w := fun x => by simpa using run_loadCells_list (P := P) w x [] (by simp)
    cases d <;> cases a <;> simp [Builtin.copy_, run_underlying hu, Builtin.lenOf, Builtin.firstCells, sizeOf, typeInfo, hq, hn, storeCells, hl]

/-- A place among elements of z cells, laid one behind the other. -/
theorem clFlat_at (z : Nat) : ∀ (cs : List (List Value)), (∀ c ∈ cs, c.length = z) → ∀ (k : Nat) (v : Value), cs.flatten[k]? = some v → ∃ i j, ∃ (h : i < cs.length), j < z ∧ k = i * z + j ∧ cs[i].getD j (.bool false) = v
  | [], _, k, v, h => by simp at h
  | c :: cs, hz, k, v, h => by
    have hc := hz c (by simp)
    rw [List.flatten_cons] at h
    by_cases hk : k < c.length
    · rw [List.getElem?_append_left hk] at h
      exact ⟨0, k, by simp, by omega, by simp, by simp [List.getD_eq_getElem?_getD, h]⟩
    · rw [List.getElem?_append_right (by omega)] at h
      obtain ⟨i, j, hi, hj, e, hv⟩ := clFlat_at z cs (fun c hc => hz c (by simp [hc])) _ v h
      refine ⟨i + 1, j, by simpa using hi, hj, ?_, by simpa using hv⟩
      rw [Nat.add_mul, Nat.one_mul]
      omega

theorem clFlat_len (z : Nat) : ∀ (cs : List (List Value)), (∀ c ∈ cs, c.length = z) → cs.flatten.length = cs.length * z
  | [], _ => by simp
  | c :: cs, hz => by
    rw [List.flatten_cons, List.length_append, hz c (by simp), clFlat_len z cs (fun c hc => hz c (by simp [hc])), List.length_cons, Nat.add_mul, Nat.one_mul]
    omega

theorem clFlat_src {w : World} {b off z : Nat} {cs : List (List Value)} (hz : ∀ c ∈ cs, c.length = z) (h : ∀ i (hi : i < cs.length) j, j < z → w.cell? ⟨b, off + i * z + j, none⟩ = some (cs[i].getD j (.bool false))) :
    ∀ k v, cs.flatten[k]? = some v → w.cell? ((⟨b, off, none⟩ : Addr).add k) = some v := by
  intro k v hk
  obtain ⟨i, j, hi, hj, rfl, rfl⟩ := clFlat_at z cs hz k v hk
  have := h i hi j hj
  rw [Nat.add_assoc] at this
  rw [Addr.add_lit]
  exact this

set_option maxHeartbeats 400000 in
theorem copiedRq_any (v : Value) (cs : List (List Value)) (w : World) (h : SeesR w v 11 cs) (hz : ∀ c ∈ cs, c.length = 11) (h1 : ∀ c ∈ cs, ∀ u ∈ c, u.oneCell' = true) (hl : cs.length ≤ 1000000) :
    Calls Tryz.prog 44 #[v] w fun e w' => ∃ v', e = .returned v' ∧ w'.ownsRow w.heap.size 35 11 v' cs.length cs.flatten ∧ Below w.heap.size w w' := by
  obtain ⟨ao, cap, rfl, hc1, hc2, hc0, h3⟩ := h
  unfold maxLen at hc2
  cases ao with
  | none =>
    have hc := hc0 rfl
    have hcs : cs = [] := List.eq_nil_of_length_eq_zero (by omega)
    subst hcs
    subst hc
    have heq : ∀ w, (binOp .eql 33 (.slice none 0 0) (.slice none 0 0)).run Tryz.prog w = .ok (.bool true) w := fun w => Lib.run_eql_slice_nil w 33 35 none 0 0 0 0 Tryz.underlying33
    have HN : Hid (w.ownsRow w.heap.size 35 11 (.slice none 0 0) 0 []) := World.ownsRow_nil _ _ _ _
    go_enter Tryz.func44, Tryz.ntmps44
    go_wp2_with fail
    go_ret
    exact ⟨_, rfl, HN.out, Below.refl _ _⟩
  | some a =>
    have heq : ∀ w, (binOp .eql 33 (.slice (some a) cs.length cap) (.slice none 0 0)).run Tryz.prog w = .ok (.bool false) w := fun w => Lib.run_eql_slice_nil w 33 35 (some a) cs.length cap 0 0 Tryz.underlying33
    obtain ⟨i0, hi, hz0, hz1, hz2⟩ := info_parts Tryz.infoRq
    have hmk := run_make (w := w) (P := Tryz.prog) 33 35 i0 _ Tryz.underlying33 hi hz0 .i64 .i64 cs.length cs.length (by omega) (Int.le_refl _) (by rw [hz2]; omega) (by omega)
    simp only [Int.toNat_natCast, hz1] at hmk
    obtain ⟨Z, hZ⟩ : ∃ Z, Z = madeCells (Value.agg rqZ).cells (cs.length * 11) := ⟨_, rfl⟩
    rw [← hZ] at hmk
    have hZs : Z.size = cs.length * 11 := by rw [hZ]; exact size_madeCells _ _
    have hfl := clFlat_len 11 cs hz
    have hg := heap_alloc_new w (.cells Z 35)
    have hsz : (Tryz.prog.info? 35).map (·.size) = some 11 := by rw [hi]; simp [hz1]
    have hone : ∀ u ∈ cs.flatten, u.oneCell' = true := fun u hu => by
      obtain ⟨c, hc, hu⟩ := List.mem_flatten.1 hu
      exact h1 c hc u hu
    obtain ⟨W1, hcp, hW1⟩ : ∃ W1, (∀ ty, (Builtin.copy_ #[33, 33] ty #[.slice (some ⟨w.heap.size, 0, none⟩) cs.length cs.length, .slice (some a) cs.length cap]).run Tryz.prog (w.alloc (.cells Z 35)) = .ok (goInt cs.length) W1) ∧ Hid (W1.heap[w.heap.size]? = some (.cells cs.flatten.toArray 35 (0, 0)) ∧ Below w.heap.size w W1) := by
      have hb : Below w.heap.size w (w.alloc (.cells Z 35)) := (Below.refl _ _).alloc (Nat.le_refl _) _
      rcases h3 with h3 | ⟨b, off, e, h3⟩
      · subst h3
        have hZ0 : Z = #[] := Array.eq_empty_of_size_eq_zero (by simpa using hZs)
        refine ⟨w.alloc (.cells Z 35), fun ty => ?_, ?_, hb⟩
        · exact run_copy_zero (P := Tryz.prog) _ 33 33 ty 35 11 _ _ 0 0 0 cap Tryz.underlying33 hsz rfl
        · rw [hg, hZ0]; rfl
      · cases e
        refine ⟨(w.alloc (.cells Z 35)).setRow w.heap.size (cs.flatten ++ Z.toList.drop cs.flatten.length).toArray, fun ty => ?_, ?_, below_setRow hb (Nat.le_refl _) _⟩
        · have := run_copy_z (P := Tryz.prog) (w.alloc (.cells Z 35)) 33 33 ty 35 11 w.heap.size cs.length cs.length ⟨b, off, none⟩ cs.length cap Z 35 cs.flatten Tryz.underlying33 hsz hg (by rw [hfl]; simp) (fun k v hk => cell_later (clFlat_src hz h3 k v hk) hb (Nat.le_refl _)) (by omega) hone
          rw [show Nat.min cs.length cs.length = cs.length from Nat.min_self _] at this
          exact this
        · rw [setRow_heap _ _ _ _ _ _ hg]
          congr 2
          rw [List.drop_eq_nil_of_le (by rw [Array.length_toList]; omega)]
          simp
    have HZ : Hid (W1.ownsRow w.heap.size 35 11 (.slice (some ⟨w.heap.size, 0, none⟩) cs.length cs.length) cs.length cs.flatten ∧ Below w.heap.size w W1) := by
      refine ⟨⟨hfl, .inr ⟨w.heap.size, cs.length, cs.flatten.toArray, rfl, Nat.le_refl _, hW1.out.1, Nat.le_refl _, by unfold maxLen; omega, by simpa using hfl, ?_⟩⟩, hW1.out.2⟩
      simp [List.take_of_length_le, hfl]
    clear hZ hg hone hsz hW1 hz hfl h3 hi hz0 hz1 hz2 hZs
    go_enter Tryz.func44, Tryz.ntmps44
    go_wp2_with fail
    go_ret
    exact ⟨_, rfl, HZ.out⟩

theorem Tryz.infoEnC : (Tryz.prog.info? 104).map (fun i => (i.zero, i.size, i.bytes)) = some (some (.agg #[.int .i8 0, .string ⟨#[]⟩, .string ⟨#[]⟩]), 3, 40) := by kernel_rfl

set_option maxHeartbeats 400000 in
theorem copiedEn_any (v : Value) (cs : List (List Value)) (w : World) (h : SeesR w v 3 cs) (hz : ∀ c ∈ cs, c.length = 3) (h1 : ∀ c ∈ cs, ∀ u ∈ c, u.oneCell' = true) (hl : cs.length ≤ 1000000) :
    Calls Tryz.prog 42 #[v] w fun e w' => ∃ v', e = .returned v' ∧ w'.ownsRow w.heap.size 104 3 v' cs.length cs.flatten ∧ Below w.heap.size w w' := by
  obtain ⟨ao, cap, rfl, hc1, hc2, hc0, h3⟩ := h
  unfold maxLen at hc2
  cases ao with
  | none =>
    have hc := hc0 rfl
    have hcs : cs = [] := List.eq_nil_of_length_eq_zero (by omega)
    subst hcs
    subst hc
    have heq : ∀ w, (binOp .eql 31 (.slice none 0 0) (.slice none 0 0)).run Tryz.prog w = .ok (.bool true) w := fun w => Lib.run_eql_slice_nil w 31 104 none 0 0 0 0 Tryz.underlying31
    have HN : Hid (w.ownsRow w.heap.size 104 3 (.slice none 0 0) 0 []) := World.ownsRow_nil _ _ _ _
    go_enter Tryz.func42, Tryz.ntmps42
    go_wp2_with fail
    go_ret
    exact ⟨_, rfl, HN.out, Below.refl _ _⟩
  | some a =>
    have heq : ∀ w, (binOp .eql 31 (.slice (some a) cs.length cap) (.slice none 0 0)).run Tryz.prog w = .ok (.bool false) w := fun w => Lib.run_eql_slice_nil w 31 104 (some a) cs.length cap 0 0 Tryz.underlying31
    obtain ⟨i0, hi, hz0, hz1, hz2⟩ := info_parts Tryz.infoEnC
    have hmk := run_make (w := w) (P := Tryz.prog) 31 104 i0 _ Tryz.underlying31 hi hz0 .i64 .i64 cs.length cs.length (by omega) (Int.le_refl _) (by rw [hz2]; omega) (by omega)
    simp only [Int.toNat_natCast, hz1] at hmk
    obtain ⟨Z, hZ⟩ : ∃ Z, Z = madeCells (Value.agg #[.int .i8 0, .string ⟨#[]⟩, .string ⟨#[]⟩]).cells (cs.length * 3) := ⟨_, rfl⟩
    rw [← hZ] at hmk
    have hZs : Z.size = cs.length * 3 := by rw [hZ]; exact size_madeCells _ _
    have hfl := clFlat_len 3 cs hz
    have hg := heap_alloc_new w (.cells Z 104)
    have hsz : (Tryz.prog.info? 104).map (·.size) = some 3 := by rw [hi]; simp [hz1]
    have hone : ∀ u ∈ cs.flatten, u.oneCell' = true := fun u hu => by
      obtain ⟨c, hc, hu⟩ := List.mem_flatten.1 hu
      exact h1 c hc u hu
    obtain ⟨W1, hcp, hW1⟩ : ∃ W1, (∀ ty, (Builtin.copy_ #[31, 31] ty #[.slice (some ⟨w.heap.size, 0, none⟩) cs.length cs.length, .slice (some a) cs.length cap]).run Tryz.prog (w.alloc (.cells Z 104)) = .ok (goInt cs.length) W1) ∧ Hid (W1.heap[w.heap.size]? = some (.cells cs.flatten.toArray 104 (0, 0)) ∧ Below w.heap.size w W1) := by
      have hb : Below w.heap.size w (w.alloc (.cells Z 104)) := (Below.refl _ _).alloc (Nat.le_refl _) _
      rcases h3 with h3 | ⟨b, off, e, h3⟩
      · subst h3
        have hZ0 : Z = #[] := Array.eq_empty_of_size_eq_zero (by simpa using hZs)
        refine ⟨w.alloc (.cells Z 104), fun ty => ?_, ?_, hb⟩
        · exact run_copy_zero (P := Tryz.prog) _ 31 31 ty 104 3 _ _ 0 0 0 cap Tryz.underlying31 hsz rfl
        · rw [hg, hZ0]; rfl
      · cases e
        refine ⟨(w.alloc (.cells Z 104)).setRow w.heap.size (cs.flatten ++ Z.toList.drop cs.flatten.length).toArray, fun ty => ?_, ?_, below_setRow hb (Nat.le_refl _) _⟩
        · have := run_copy_z (P := Tryz.prog) (w.alloc (.cells Z 104)) 31 31 ty 104 3 w.heap.size cs.length cs.length ⟨b, off, none⟩ cs.length cap Z 104 cs.flatten Tryz.underlying31 hsz hg (by rw [hfl]; simp) (fun k v hk => cell_later (clFlat_src hz h3 k v hk) hb (Nat.le_refl _)) (by omega) hone
          rw [show Nat.min cs.length cs.length = cs.length from Nat.min_self _] at this
          exact this
        · rw [setRow_heap _ _ _ _ _ _ hg]
          congr 2
          rw [List.drop_eq_nil_of_le (by rw [Array.length_toList]; omega)]
          simp
    have HZ : Hid (W1.ownsRow w.heap.size 104 3 (.slice (some ⟨w.heap.size, 0, none⟩) cs.length cs.length) cs.length cs.flatten ∧ Below w.heap.size w W1) := by
      refine ⟨⟨hfl, .inr ⟨w.heap.size, cs.length, cs.flatten.toArray, rfl, Nat.le_refl _, hW1.out.1, Nat.le_refl _, by unfold maxLen; omega, by simpa using hfl, ?_⟩⟩, hW1.out.2⟩
      simp [List.take_of_length_le, hfl]
    clear hZ hg hone hsz hW1 hz hfl h3 hi hz0 hz1 hz2 hZs
    go_enter Tryz.func42, Tryz.ntmps42
    go_wp2_with fail
    go_ret
    exact ⟨_, rfl, HZ.out⟩

theorem Tryz.infoIdC : (Tryz.prog.info? 102).map (fun i => (i.zero, i.size, i.bytes)) = some (some (.agg #[.string ⟨#[]⟩, .string ⟨#[]⟩]), 2, 32) := by kernel_rfl

set_option maxHeartbeats 400000 in
theorem copiedId_any (v : Value) (cs : List (List Value)) (w : World) (h : SeesR w v 2 cs) (hz : ∀ c ∈ cs, c.length = 2) (h1 : ∀ c ∈ cs, ∀ u ∈ c, u.oneCell' = true) (hl : cs.length ≤ 1000000) :
    Calls Tryz.prog 43 #[v] w fun e w' => ∃ v', e = .returned v' ∧ w'.ownsRow w.heap.size 102 2 v' cs.length cs.flatten ∧ Below w.heap.size w w' := by
  obtain ⟨ao, cap, rfl, hc1, hc2, hc0, h3⟩ := h
  unfold maxLen at hc2
  cases ao with
  | none =>
    have hc := hc0 rfl
    have hcs : cs = [] := List.eq_nil_of_length_eq_zero (by omega)
    subst hcs
    subst hc
    have heq : ∀ w, (binOp .eql 32 (.slice none 0 0) (.slice none 0 0)).run Tryz.prog w = .ok (.bool true) w := fun w => Lib.run_eql_slice_nil w 32 102 none 0 0 0 0 Tryz.underlying32
    have HN : Hid (w.ownsRow w.heap.size 102 2 (.slice none 0 0) 0 []) := World.ownsRow_nil _ _ _ _
    go_enter Tryz.func43, Tryz.ntmps43
    go_wp2_with fail
    go_ret
    exact ⟨_, rfl, HN.out, Below.refl _ _⟩
  | some a =>
    have heq : ∀ w, (binOp .eql 32 (.slice (some a) cs.length cap) (.slice none 0 0)).run Tryz.prog w = .ok (.bool false) w := fun w => Lib.run_eql_slice_nil w 32 102 (some a) cs.length cap 0 0 Tryz.underlying32
    obtain ⟨i0, hi, hz0, hz1, hz2⟩ := info_parts Tryz.infoIdC
    have hmk := run_make (w := w) (P := Tryz.prog) 32 102 i0 _ Tryz.underlying32 hi hz0 .i64 .i64 cs.length cs.length (by omega) (Int.le_refl _) (by rw [hz2]; omega) (by omega)
    simp only [Int.toNat_natCast, hz1] at hmk
    obtain ⟨Z, hZ⟩ : ∃ Z, Z = madeCells (Value.agg #[.string ⟨#[]⟩, .string ⟨#[]⟩]).cells (cs.length * 2) := ⟨_, rfl⟩
    rw [← hZ] at hmk
    have hZs : Z.size = cs.length * 2 := by rw [hZ]; exact size_madeCells _ _
    have hfl := clFlat_len 2 cs hz
    have hg := heap_alloc_new w (.cells Z 102)
    have hsz : (Tryz.prog.info? 102).map (·.size) = some 2 := by rw [hi]; simp [hz1]
    have hone : ∀ u ∈ cs.flatten, u.oneCell' = true := fun u hu => by
      obtain ⟨c, hc, hu⟩ := List.mem_flatten.1 hu
      exact h1 c hc u hu
    obtain ⟨W1, hcp, hW1⟩ : ∃ W1, (∀ ty, (Builtin.copy_ #[32, 32] ty #[.slice (some ⟨w.heap.size, 0, none⟩) cs.length cs.length, .slice (some a) cs.length cap]).run Tryz.prog (w.alloc (.cells Z 102)) = .ok (goInt cs.length) W1) ∧ Hid (W1.heap[w.heap.size]? = some (.cells cs.flatten.toArray 102 (0, 0)) ∧ Below w.heap.size w W1) := by
      have hb : Below w.heap.size w (w.alloc (.cells Z 102)) := (Below.refl _ _).alloc (Nat.le_refl _) _
      rcases h3 with h3 | ⟨b, off, e, h3⟩
      · subst h3
        have hZ0 : Z = #[] := Array.eq_empty_of_size_eq_zero (by simpa using hZs)
        refine ⟨w.alloc (.cells Z 102), fun ty => ?_, ?_, hb⟩
        · exact run_copy_zero (P := Tryz.prog) _ 32 32 ty 102 2 _ _ 0 0 0 cap Tryz.underlying32 hsz rfl
        · rw [hg, hZ0]; rfl
      · cases e
        refine ⟨(w.alloc (.cells Z 102)).setRow w.heap.size (cs.flatten ++ Z.toList.drop cs.flatten.length).toArray, fun ty => ?_, ?_, below_setRow hb (Nat.le_refl _) _⟩
        · have := run_copy_z (P := Tryz.prog) (w.alloc (.cells Z 102)) 32 32 ty 102 2 w.heap.size cs.length cs.length ⟨b, off, none⟩ cs.length cap Z 102 cs.flatten Tryz.underlying32 hsz hg (by rw [hfl]; simp) (fun k v hk => cell_later (clFlat_src hz h3 k v hk) hb (Nat.le_refl _)) (by omega) hone
          rw [show Nat.min cs.length cs.length = cs.length from Nat.min_self _] at this
          exact this
        · rw [setRow_heap _ _ _ _ _ _ hg]
          congr 2
          rw [List.drop_eq_nil_of_le (by rw [Array.length_toList]; omega)]
          simp
    have HZ : Hid (W1.ownsRow w.heap.size 102 2 (.slice (some ⟨w.heap.size, 0, none⟩) cs.length cs.length) cs.length cs.flatten ∧ Below w.heap.size w W1) := by
      refine ⟨⟨hfl, .inr ⟨w.heap.size, cs.length, cs.flatten.toArray, rfl, Nat.le_refl _, hW1.out.1, Nat.le_refl _, by unfold maxLen; omega, by simpa using hfl, ?_⟩⟩, hW1.out.2⟩
      simp [List.take_of_length_le, hfl]
    clear hZ hg hone hsz hW1 hz hfl h3 hi hz0 hz1 hz2 hZs
    go_enter Tryz.func43, Tryz.ntmps43
    go_wp2_with fail
    go_ret
    exact ⟨_, rfl, HZ.out⟩

theorem Tryz.infoByC : (Tryz.prog.info? 5).map (fun i => (i.zero, i.size, i.bytes)) = some (some (.int .u8 0), 1, 1) := by kernel_rfl

set_option maxHeartbeats 400000 in
theorem copiedBy_any (v : Value) (cs : List (List Value)) (w : World) (h : SeesR w v 1 cs) (hz : ∀ c ∈ cs, c.length = 1) (h1 : ∀ c ∈ cs, ∀ u ∈ c, u.oneCell' = true) (hl : cs.length ≤ 1000000) :
    Calls Tryz.prog 41 #[v] w fun e w' => ∃ v', e = .returned v' ∧ w'.ownsRow w.heap.size 5 1 v' cs.length cs.flatten ∧ Below w.heap.size w w' := by
  obtain ⟨ao, cap, rfl, hc1, hc2, hc0, h3⟩ := h
  unfold maxLen at hc2
  cases ao with
  | none =>
    have hc := hc0 rfl
    have hcs : cs = [] := List.eq_nil_of_length_eq_zero (by omega)
    subst hcs
    subst hc
    have heq : ∀ w, (binOp .eql 30 (.slice none 0 0) (.slice none 0 0)).run Tryz.prog w = .ok (.bool true) w := fun w => Lib.run_eql_slice_nil w 30 5 none 0 0 0 0 Tryz.underlying30
    have HN : Hid (w.ownsRow w.heap.size 5 1 (.slice none 0 0) 0 []) := World.ownsRow_nil _ _ _ _
    go_enter Tryz.func41, Tryz.ntmps41
    go_wp2_with fail
    go_ret
    exact ⟨_, rfl, HN.out, Below.refl _ _⟩
  | some a =>
    have heq : ∀ w, (binOp .eql 30 (.slice (some a) cs.length cap) (.slice none 0 0)).run Tryz.prog w = .ok (.bool false) w := fun w => Lib.run_eql_slice_nil w 30 5 (some a) cs.length cap 0 0 Tryz.underlying30
    obtain ⟨i0, hi, hz0, hz1, hz2⟩ := info_parts Tryz.infoByC
    have hmk := run_make (w := w) (P := Tryz.prog) 30 5 i0 _ Tryz.underlying30 hi hz0 .i64 .i64 cs.length cs.length (by omega) (Int.le_refl _) (by rw [hz2]; omega) (by omega)
    simp only [Int.toNat_natCast, hz1] at hmk
    obtain ⟨Z, hZ⟩ : ∃ Z, Z = madeCells (Value.int .u8 0).cells (cs.length * 1) := ⟨_, rfl⟩
    rw [← hZ] at hmk
    have hZs : Z.size = cs.length * 1 := by rw [hZ]; exact size_madeCells _ _
    have hfl := clFlat_len 1 cs hz
    have hg := heap_alloc_new w (.cells Z 5)
    have hsz : (Tryz.prog.info? 5).map (·.size) = some 1 := by rw [hi]; simp [hz1]
    have hone : ∀ u ∈ cs.flatten, u.oneCell' = true := fun u hu => by
      obtain ⟨c, hc, hu⟩ := List.mem_flatten.1 hu
      exact h1 c hc u hu
    obtain ⟨W1, hcp, hW1⟩ : ∃ W1, (∀ ty, (Builtin.copy_ #[30, 30] ty #[.slice (some ⟨w.heap.size, 0, none⟩) cs.length cs.length, .slice (some a) cs.length cap]).run Tryz.prog (w.alloc (.cells Z 5)) = .ok (goInt cs.length) W1) ∧ Hid (W1.heap[w.heap.size]? = some (.cells cs.flatten.toArray 5 (0, 0)) ∧ Below w.heap.size w W1) := by
      have hb : Below w.heap.size w (w.alloc (.cells Z 5)) := (Below.refl _ _).alloc (Nat.le_refl _) _
      rcases h3 with h3 | ⟨b, off, e, h3⟩
      · subst h3
        have hZ0 : Z = #[] := Array.eq_empty_of_size_eq_zero (by simpa using hZs)
        refine ⟨w.alloc (.cells Z 5), fun ty => ?_, ?_, hb⟩
        · exact run_copy_zero (P := Tryz.prog) _ 30 30 ty 5 1 _ _ 0 0 0 cap Tryz.underlying30 hsz rfl
        · rw [hg, hZ0]; rfl
      · cases e
        refine ⟨(w.alloc (.cells Z 5)).setRow w.heap.size (cs.flatten ++ Z.toList.drop cs.flatten.length).toArray, fun ty => ?_, ?_, below_setRow hb (Nat.le_refl _) _⟩
        · have := run_copy_z (P := Tryz.prog) (w.alloc (.cells Z 5)) 30 30 ty 5 1 w.heap.size cs.length cs.length ⟨b, off, none⟩ cs.length cap Z 5 cs.flatten Tryz.underlying30 hsz hg (by rw [hfl]; simp) (fun k v hk => cell_later (clFlat_src hz h3 k v hk) hb (Nat.le_refl _)) (by omega) hone
          rw [show Nat.min cs.length cs.length = cs.length from Nat.min_self _] at this
          exact this
        · rw [setRow_heap _ _ _ _ _ _ hg]
          congr 2
          rw [List.drop_eq_nil_of_le (by rw [Array.length_toList]; omega)]
          simp
    have HZ : Hid (W1.ownsRow w.heap.size 5 1 (.slice (some ⟨w.heap.size, 0, none⟩) cs.length cs.length) cs.length cs.flatten ∧ Below w.heap.size w W1) := by
      refine ⟨⟨hfl, .inr ⟨w.heap.size, cs.length, cs.flatten.toArray, rfl, Nat.le_refl _, hW1.out.1, Nat.le_refl _, by unfold maxLen; omega, by simpa using hfl, ?_⟩⟩, hW1.out.2⟩
      simp [List.take_of_length_le, hfl]
    clear hZ hg hone hsz hW1 hz hfl h3 hi hz0 hz1 hz2 hZs
    go_enter Tryz.func41, Tryz.ntmps41
    go_wp2_with fail
    go_ret
    exact ⟨_, rfl, HZ.out⟩

end Go.Proofs.YtgjjcmhlmdfccaaGreatDoor
