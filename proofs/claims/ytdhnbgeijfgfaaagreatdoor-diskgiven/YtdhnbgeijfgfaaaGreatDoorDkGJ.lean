/-
  DERIVED: THE SHELF's CONTRACTS AT THIS DUMP, IN PLAIN WORDS (tools/lay-plain.mjs out of 'TryzShelf.lean', which tools/lay-shelf.mjs wrote): THE SAME DECLARATIONS UNDER THE SAME NAMES: 'import', 'namespace', 'open', 'def', 'theorem' AND NOTHING ELSE: no command of the shelf's: FOR A HAND-IN. Each laying: the table of numbers ('.._ren') and one theorem, a field a fact of the dump's own or the kernel's comparison; each contract: ONE APPLICATION.
-/
import Derived.Shelf.SlGeneric
import Derived.Shelf.SlicesE.Delete
import Derived.Ground.SlgnProg
import Derived.Test.YtdhnbgeijfgfaaaGreatDoorProg
import Derived.Test.YtdhnbgeijfgfaaaGreatDoorDkFJ
namespace Go.Proofs
open Go.Shelf
def Tryz.delP_ren : Go.Shelf.Ren := ⟨fun | 45 => 90 | n => n, fun | 22 => 53 | 23 => 81 | 3 => 3 | 4 => 4 | 0 => 0 | n => n, fun | n => n⟩
theorem Tryz.delP : Go.Proofs.SlLaysE.n45 Tryz.prog Tryz.delP_ren := {
  mixed := by kernel_rfl
  f45 := ⟨Tryz.f90.name, by decide, Tryz.func90.trans (congrArg some (by kernel_rfl))⟩
  t0 := Tryz.underlying0
  a0 := Tryz.isAgg0
  z0 := Tryz.sizeOf0
  v0 := Tryz.zeroValue0
  t3 := Tryz.underlying3
  a3 := Tryz.isAgg3
  z3 := Tryz.sizeOf3
  v3 := Tryz.zeroValue3
  t4 := Tryz.underlying4
  a4 := Tryz.isAgg4
  z4 := Tryz.sizeOf4
  v4 := Tryz.zeroValue4
  t22 := Tryz.underlying53
  a22 := Tryz.isAgg53
  z22 := Tryz.sizeOf53
  v22 := Tryz.zeroValue53
  a23 := Tryz.isAgg81
  z23 := Tryz.sizeOf81 }
end Go.Proofs

/- A disk's row of files: one taken out, one put in. -/
namespace Go.Proofs.YtdhnbgeijfgfaaaGreatDoor
open Go.RowKit Go.Shelf Go.Sort
set_option maxRecDepth 8000

theorem one_allocK (w : World) (o : Obj) : Below w.heap.size w (w.alloc o) := (Below.refl _ w).alloc (Nat.le_refl _) _

abbrev qa (m : FiM) : Option Addr := some ⟨m.q, 0, none⟩

theorem ptrs_eq (ms : List FiM) : ptrs ms = (ms.map qa).map Value.pointer := by simp [ptrs, qa]

theorem take_putCellsP (cur : Array Value) (ts : List (Option Addr)) (h : ts.length ≤ cur.size) (k : Nat) (hk : k ≤ ts.length) : (putCells Value.pointer 0 ts.toArray cur).toList.take k = (ts.take k).map Value.pointer := by
  apply List.ext_getElem?
  intro j
  by_cases hj : j < k
  · rw [List.getElem?_take_of_lt hj, Array.getElem?_toList]
    simp [putCells, hj, show j < ts.length by omega, show j < cur.size by omega]
  · rw [List.getElem?_take_eq_none (by omega), List.getElem?_eq_none (by simp; omega)]

theorem delete_any {w : World} {g cap : Nat} {ms : List FiM} (hown : w.ownsRow 0 81 1 (.slice (some ⟨g, 0, none⟩) ms.length cap) ms.length (ptrs ms)) (i : Nat) (hi : i < ms.length) :
    Calls Tryz.prog 90 #[.slice (some ⟨g, 0, none⟩) ms.length cap, .int .i64 i, .int .i64 (i + 1)] w fun e w' => e = .returned (.slice (some ⟨g, 0, none⟩) (ms.length - 1) cap) ∧ w'.ownsRow 0 81 1 (.slice (some ⟨g, 0, none⟩) (ms.length - 1) cap) (ms.length - 1) (ptrs (ms.eraseIdx i)) ∧ Kept w w' (· = g) := by
  obtain ⟨i0, hi0, hz0, hzs, hzb⟩ := info_parts Tryz.infoPf
  obtain ⟨_, ⟨e, _⟩ | ⟨g', cap', cur, e, _, h3, h4, h5, h6, h7⟩⟩ := hown
  · cases e
  obtain ⟨rfl, rfl⟩ : g = g' ∧ cap = cap' := by simpa using e
  rw [Nat.mul_one] at h6 h7
  have hH : Holds Value.pointer w g 0 (ms.map qa).toArray := fun j hj => by
    have hj' : j < ms.length := by simpa using hj
    refine ⟨?_, frozen_of_row w g _ _ _ h3⟩
    rw [Nat.zero_add, cell_of_row w g j _ _ _ h3]
    have := congrArg (fun l => l[j]?) h7
    simp only [List.getElem?_take] at this
    rw [if_pos hj', Array.getElem?_toList, List.getElem?_map, List.getElem?_eq_getElem hj'] at this
    rw [this]
    simp [qa, hj']
  have h := AnyE.slices_Delete Tryz.delP Value.pointer (fun _ => rfl) none Tryz.zeroValue81 i0 hi0 hzs g 0 cap i (i + 1) (ms.map qa).toArray w hH (by simpa using h4) (by unfold maxLen at h5; omega) (by omega) (by simp; omega)
  have hs : (ms.map qa).toArray.size = ms.length := by simp
  rw [hs] at h
  refine Calls.mono (show Calls Tryz.prog 90 _ w _ from h) ?_
  rintro e w' ⟨rfl, q, rfl⟩
  rw [show i + 1 - i = 1 by omega]
  obtain ⟨L, hL⟩ : ∃ L, L = (ms.map qa).toArray.toList.take i ++ (ms.map qa).toArray.toList.drop (i + 1) ++ List.replicate 1 none := ⟨_, rfl⟩
  have hl : L.length = ms.length := by rw [hL]; simp; omega
  have ht : L.take (ms.length - 1) = (ms.eraseIdx i).map qa := by
    rw [hL, List.eraseIdx_eq_take_drop_succ, List.map_append, List.map_take, List.map_drop]
    rw [List.take_append_of_le_length (by simp; omega), List.take_of_length_le (by simp; omega)]
  rw [← hL]
  refine ⟨rfl, ⟨?_, .inr ⟨g, cap, putCells Value.pointer 0 L.toArray cur, rfl, Nat.zero_le _, ?_, by omega, h5, by simp [putCells, h6], ?_⟩⟩, ?_⟩
  · simp [ptrs, List.length_eraseIdx, hi]
  · simp [putRow, mapBlock, Sort.ahead, Array.getElem?_modify, h3, onCells]
  · rw [Nat.mul_one, take_putCellsP cur L (by omega) _ (by omega), ht, ptrs_eq]
  · refine ⟨rfl, rfl, rfl, by simp, fun k hk hne => ?_⟩
    have : g ≠ k := fun e => hne e.symm
    simp [putRow, mapBlock, Sort.ahead, Array.getElem?_modify, this]

theorem foot_same {p : Nat} {fv fv' : Value} {ms : List FiM} (h : fv'.ownBlock = fv.ownBlock) : foot p fv' ms = foot p fv ms := by unfold foot; rw [h]

theorem foot_erase {p : Nat} {fv : Value} {ms : List FiM} (i : Nat) : (foot p fv (ms.eraseIdx i)).Sublist (foot p fv ms) := by
  unfold foot
  refine List.Sublist.cons_cons _ (List.Sublist.append (List.Sublist.refl _) ?_)
  induction ms generalizing i with
  | nil => simp
  | cons m ms ih =>
    cases i with
    | zero => simp [List.flatMap_cons]
    | succ i => simp only [List.eraseIdx_cons_succ, List.flatMap_cons]; exact List.Sublist.append (List.Sublist.refl _) (ih i)

theorem foot_insert {p : Nat} {fv : Value} {ms : List FiM} (m : FiM) (i : Nat) : (foot p fv (ms.take i ++ m :: ms.drop i)).Perm (m.blks ++ foot p fv ms) := by
  have e : ms.flatMap FiM.blks = (ms.take i).flatMap FiM.blks ++ (ms.drop i).flatMap FiM.blks := by rw [← List.flatMap_append, List.take_append_drop]
  unfold foot
  rw [List.flatMap_append, List.flatMap_cons, e]
  have h1 : ((ms.take i).flatMap FiM.blks ++ (m.blks ++ (ms.drop i).flatMap FiM.blks)).Perm (m.blks ++ ((ms.take i).flatMap FiM.blks ++ (ms.drop i).flatMap FiM.blks)) := by
    rw [← List.append_assoc, ← List.append_assoc]
    exact List.Perm.append_right _ List.perm_append_comm
  have h2 : ∀ X : List Nat, (fv.ownBlock.toList ++ (m.blks ++ X)).Perm (m.blks ++ (fv.ownBlock.toList ++ X)) := fun X => by
    rw [← List.append_assoc, ← List.append_assoc]
    exact List.Perm.append_right _ List.perm_append_comm
  refine ((List.Perm.append_left _ h1).trans (h2 _)).cons p |>.trans ?_
  exact (List.perm_middle (a := p) (l₁ := m.blks)).symm

/-- A step that changed the disk's own block and the row alone. -/
abbrev rowS (p : Nat) (fv : Value) : Nat → Prop := fun k => k = p ∨ fv.ownBlock = some k

theorem row_foot {p k : Nat} {fv : Value} {ms : List FiM} (h : rowS p fv k) : k ∈ foot p fv ms := by
  rcases h with rfl | h
  · exact mem_foot_p
  · exact mem_foot_fv h

theorem foot_row {p : Nat} {fv : Value} {ms : List FiM} (h : (foot p fv ms).Nodup) {m : FiM} (hm : m ∈ ms) {k : Nat} (hk : k ∈ m.blks) : ¬ rowS p fv k := by
  intro e
  have h1 := List.nodup_cons.1 h
  have h2 := List.nodup_append.1 h1.2
  have hkm : k ∈ ms.flatMap FiM.blks := List.mem_flatMap.2 ⟨m, hm, hk⟩
  rcases e with rfl | e
  · exact h1.1 (List.mem_append_right _ hkm)
  · exact h2.2.2 k (by rw [e]; simp) k hkm rfl

theorem blks_q (m : FiM) : m.q ∈ m.blks := List.mem_cons_self ..
theorem blks_v {m : FiM} {k : Nat} (h : m.v.ownBlock = some k) : k ∈ m.blks := List.mem_cons_of_mem _ (by rw [h]; simp)

theorem FileAt.keptRow {w w' : World} {p : Nat} {fv : Value} {m : FiM} {f : FiD} (h : FileAt w m f) (hk : Kept w w' (rowS p fv)) (hn : ∀ k ∈ m.blks, ¬ rowS p fv k) : FileAt w' m f :=
  h.kept hk (hn _ (blks_q m)) (fun k e => hn k (blks_v e))

/-- Where drop looks: past the end where there is no such file. -/
def dropI (fs : List FiD) (n : ByteArray) : Nat := if hasF fs n then pl fs n else fs.length

theorem getElem?_erase {α : Type} (l : List α) (i k : Nat) : (l.eraseIdx i)[k]? = if k < i then l[k]? else l[k + 1]? := List.getElem?_eraseIdx

set_option maxHeartbeats 1000000 in
theorem drop_any {w : World} {p : Nat} {fv : Value} {ms : List FiM} {D : DkD} (h : IsDk w p fv ms D) (hr : Rise D.files) (hfew : D.files.length ≤ 64) (n : ByteArray) :
    Calls Tryz.prog 82 #[.pointer (some ⟨p, 0, none⟩), .string n] w fun e w' => e = .returned (.tuple #[]) ∧ ∃ fv', fv'.ownBlock = fv.ownBlock ∧ IsDk w' p fv' (ms.eraseIdx (dropI D.files n)) { D with files := D.files.eraseIdx (dropI D.files n) } ∧ Kept w w' (rowS p fv) := by
  obtain ⟨c0, c1, c2, c3, c4, c5⟩ := h.cells
  have hl := lt_of_block h.row
  have HP : Hid _ := place_any h hr hfew n
  have HH : Hid (IsDk w p fv ms D) := h
  cases hb : hasF D.files n
  · have ed : dropI D.files n = D.files.length := by unfold dropI; rw [hb]; rfl
    rw [hb] at HP
    obtain ⟨fa, fc, hfv, _⟩ := fv_shape h
    have HE : Hid (IsDk w p fv (ms.eraseIdx (dropI D.files n)) { D with files := D.files.eraseIdx (dropI D.files n) }) := by
      rw [ed, List.eraseIdx_of_length_le (Nat.le_refl _), List.eraseIdx_of_length_le (by rw [h.len]; exact Nat.le_refl _)]
      exact h
    subst hfv
    clear h hr ed
    go_enter Tryz.func82, Tryz.ntmps82
    go_wp2_with fail
    refine Calls.mono HP.out ?_
    rintro e w1 ⟨rfl, hw1⟩
    subst w1
    go_wp2_with fail
    go_end0
    exact ⟨rfl, _, rfl, HE.out, Kept.refl _ _⟩
  · have ed : dropI D.files n = pl D.files n := by unfold dropI; rw [hb]; rfl
    rw [hb] at HP
    rw [ed]
    obtain ⟨hlt, _⟩ := (hasF_iff _ _).1 hb
    have hlt' : pl D.files n < ms.length := by rw [h.len]; exact hlt
    obtain ⟨g, cap, hfv, _⟩ := ptr_at h _ hlt'
    subst hfv
    have HD : Hid _ := delete_any h.own (pl D.files n) hlt'
    have f0 : w.frozen? ⟨p, 0, none⟩ = false := frozen_of_row w p 0 _ _ h.row
    have hgp : g ≠ p := (foot_ne h.nd).1 g rfl
    have HMB : Hid _ := h.len
    clear h hr ed hb
    generalize pl D.files n = P at *
    go_enter Tryz.func82, Tryz.ntmps82
    go_wp2_with fail
    refine Calls.mono HP.out ?_
    rintro e w1 ⟨rfl, hw1⟩
    subst w1
    go_wp2_with fail
    refine Calls.mono HD.out ?_
    rintro e w2 ⟨rfl, ho2, hk2⟩
    have hrow2 : w2.heap[p]? = some (.cells (dkQ (.slice (some ⟨g, 0, none⟩) ms.length cap) D.room D.on D.armed D.writes) 57 (0, 0)) := hk2.heap HH.out.row (fun e => hgp e.symm)
    have g0 : w2.frozen? ⟨p, 0, none⟩ = false := frozen_of_row w2 p 0 _ _ hrow2
    have g1 : w2.cell? ⟨p, 0, none⟩ = some (.slice (some ⟨g, 0, none⟩) ms.length cap) := cell_of_row w2 p 0 _ _ _ hrow2
    have hl2 := lt_of_block hrow2
    have H2 : Hid (_ ∧ _ ∧ _) := ⟨ho2, hk2, hrow2⟩
    clear ho2 hk2 hrow2 HD HP
    go_wp2_with fail
    go_end0
    obtain ⟨ho2, hk2, hrow2⟩ := H2.out
    have hk3 : Kept w2 (w2.setCell ⟨p, 0, none⟩ (.slice (some ⟨g, 0, none⟩) (ms.length - 1) cap)) (fun k => k = p) := Kept.setCell (Kept.refl _ (fun k => k = p)) ⟨p, 0, none⟩ _ (fun _ => rfl)
    have hk : Kept w (w2.setCell ⟨p, 0, none⟩ (.slice (some ⟨g, 0, none⟩) (ms.length - 1) cap)) (rowS p (.slice (some ⟨g, 0, none⟩) ms.length cap)) := hk2.trans' hk3 (fun k _ e => .inr (by rw [e]; rfl)) (fun k _ e => .inl e)
    refine ⟨rfl, .slice (some ⟨g, 0, none⟩) (ms.length - 1) cap, rfl, ⟨heap_setK _ hrow2, ?_, ?_, fun k m f hm hf => ?_, ?_⟩, hk⟩
    · rw [List.length_eraseIdx, List.length_eraseIdx, HMB.out]
    · rw [List.length_eraseIdx, if_pos hlt']
      exact row_kept' ho2 hk3 (fun k e => by cases e; exact hgp)
    · simp only at hf
      rw [getElem?_erase] at hm hf
      have hm' : ∃ j : Nat, ms[j]? = some m ∧ D.files[j]? = some f := by
        by_cases hkP : k < P
        · rw [if_pos hkP] at hm hf; exact ⟨k, hm, hf⟩
        · rw [if_neg hkP] at hm hf; exact ⟨k + 1, hm, hf⟩
      obtain ⟨j, hm, hf⟩ := hm'
      exact (HH.out.file j m f hm hf).keptRow hk (fun k hk => foot_row HH.out.nd (List.mem_of_getElem? hm) hk)
    · exact (HH.out.nd).sublist (foot_erase P)

theorem getElem?_ins {α : Type} (l : List α) (i k : Nat) (x : α) (hi : i ≤ l.length) : (l.take i ++ x :: l.drop i)[k]? = if k < i then l[k]? else if k = i then some x else l[k - 1]? := by
  by_cases h1 : k < i
  · rw [if_pos h1, List.getElem?_append_left (by simp; omega), List.getElem?_take, if_pos h1]
  · rw [if_neg h1, List.getElem?_append_right (by simp; omega)]
    have hl : (l.take i).length = i := by simp; omega
    rw [hl]
    by_cases h2 : k = i
    · rw [if_pos h2, h2, Nat.sub_self]; rfl
    · rw [if_neg h2, show k - i = (k - 1 - i) + 1 by omega, List.getElem?_cons_succ, List.getElem?_drop]
      congr 1
      omega

/-- What a put leaves: the file among the others. -/
structure PutTo (w : World) (p : Nat) (fv : Value) (ms : List FiM) (D : DkD) (m : FiM) (f : FiD) (w' : World) (fv' : Value) : Prop where
  is : IsDk w' p fv' (ms.take (pl D.files f.name) ++ m :: ms.drop (pl D.files f.name)) { D with files := D.files.take (pl D.files f.name) ++ f :: D.files.drop (pl D.files f.name) }
  kept : Kept w w' (rowS p fv)
  blk : ∀ k, fv'.ownBlock = some k → fv.ownBlock = some k ∨ w.heap.size ≤ k

set_option maxHeartbeats 1000000 in
theorem put_any {w : World} {p : Nat} {fv : Value} {ms : List FiM} {D : DkD} (h : IsDk w p fv ms D) (hr : Rise D.files) (hfew : D.files.length ≤ 63) {m : FiM} {f : FiD} (hf : FileAt w m f) (hnd : m.blks.Nodup) (hap : ∀ k ∈ m.blks, k ∉ foot p fv ms) :
    Calls Tryz.prog 78 #[.pointer (some ⟨p, 0, none⟩), .pointer (some ⟨m.q, 0, none⟩)] w fun e w' => e = .returned (.tuple #[]) ∧ ∃ fv', PutTo w p fv ms D m f w' fv' := by
  obtain ⟨c0, c1, c2, c3, c4, c5⟩ := h.cells
  obtain ⟨q0, q1, q2⟩ := fl_cells' hf
  have hl := lt_of_block h.row
  have hlq := lt_of_block hf.row
  have HP : Hid _ := place_any h hr (by omega) f.name
  obtain ⟨P, hP⟩ : ∃ P, P = pl D.files f.name := ⟨_, rfl⟩
  have hPl : P ≤ ms.length := by rw [hP, h.len]; exact pl_le _ _
  have HPP : Hid _ := hP
  have HA : Hid (IsDk w p fv ms D ∧ FileAt w m f ∧ m.blks.Nodup ∧ ∀ k ∈ m.blks, k ∉ foot p fv ms) := ⟨h, hf, hnd, hap⟩
  have f0 : w.frozen? ⟨p, 0, none⟩ = false := frozen_of_row w p 0 _ _ h.row
  obtain ⟨fa, fc, hfv, _⟩ := fv_shape h
  have HFV : Hid _ := hfv
  have HI : Hid (∀ V : World, V = w.alloc (.cells #[.pointer (some ⟨m.q, 0, none⟩)] 81) → Calls Tryz.prog 89 #[fv, .int .i64 P, .slice (some ⟨w.heap.size, 0, none⟩) 1 1] V fun e w' => ∃ va vl vc, e = .returned (.slice va vl vc) ∧ InsTo V fv (ms.length + 1) ((ptrs ms).take P ++ .pointer (some ⟨m.q, 0, none⟩) :: (ptrs ms).drop P) w' (.slice va vl vc)) := fun V hV => by
    subst hV
    refine (insert_any (row_kept' h.own (Below.kept (one_allocK w _)) (fun k e e' => by have := h.lt (mem_foot_fv e); omega)) (fun u hu => by obtain ⟨m', _, rfl⟩ := List.mem_map.1 hu; rfl) (.pointer (some ⟨m.q, 0, none⟩)) rfl w.heap.size (heap_alloc_new w _) (fun e => by have := h.lt (mem_foot_fv e); omega) P hPl (by rw [h.len]; omega)).mono ?_
    rintro e w' ⟨v', rfl, ht⟩
    obtain ⟨va, vl, vc, rfl⟩ : ∃ va vl vc, v' = .slice va vl vc := by
      obtain ⟨_, ⟨rfl, _⟩ | ⟨g, cap, cur, rfl, _⟩⟩ := ht.own
      · exact ⟨_, _, _, rfl⟩
      · exact ⟨_, _, _, rfl⟩
    exact ⟨va, vl, vc, rfl, ht⟩
  rw [← hP] at HP
  rw [hfv] at c0 HI
  clear h hf hr hnd hap hP hfv
  go_enter Tryz.func78, Tryz.ntmps78
  go_wp2_with fail
  refine Calls.mono HP.out ?_
  rintro e w1 ⟨rfl, hw1⟩
  subst w1
  clear HP
  go_wp2_with fail
  refine Calls.mono (HI.out _ rfl) ?_
  rintro e w2 ⟨va, vl, vc, rfl, ht⟩
  have hb1 := one_allocK w (.cells #[.pointer (some ⟨m.q, 0, none⟩)] 81)
  have hkw : Kept w w2 (fun k => fv.ownBlock = some k) := by
    rw [HFV.out]
    exact (Below.kept hb1).trans' ht.kept (fun k hk e => by omega) (fun k _ e => e)
  have hpr : fv.ownBlock ≠ some p := fun e => (foot_ne HA.out.1.nd).1 p e rfl
  have hrow2 : w2.heap[p]? = some (.cells (dkQ fv D.room D.on D.armed D.writes) 57 (0, 0)) := hkw.heap HA.out.1.row hpr
  have g0 : w2.frozen? ⟨p, 0, none⟩ = false := frozen_of_row w2 p 0 _ _ hrow2
  have g1 : w2.cell? ⟨p, 0, none⟩ = some fv := cell_of_row w2 p 0 _ _ _ hrow2
  rw [HFV.out] at g1
  have hl2 := lt_of_block hrow2
  rw [← HFV.out] at ht
  have H2 : Hid (InsTo _ _ _ _ w2 (.slice va vl vc) ∧ Kept w w2 (fun k => fv.ownBlock = some k) ∧ w2.heap[p]? = some (.cells (dkQ fv D.room D.on D.armed D.writes) 57 (0, 0))) := ⟨ht, hkw, hrow2⟩
  clear ht hkw hrow2 HI hb1 hpr
  go_wp2_with fail
  go_end0
  obtain ⟨ht, hkw, hrow2⟩ := H2.out
  obtain ⟨h, hf, hnd, hap⟩ := HA.out
  have hszw : w.heap.size ≤ (w.alloc (.cells #[.pointer (some ⟨m.q, 0, none⟩)] 81)).heap.size := by simp
  have hblk : ∀ k, (Value.slice va vl vc).ownBlock = some k → fv.ownBlock = some k ∨ w.heap.size ≤ k := fun k e => by
    rcases ht.blk k e with e | e
    · exact .inl e
    · exact .inr (Nat.le_trans hszw e)
  have hvp : ∀ k, (Value.slice va vl vc).ownBlock = some k → k ≠ p := fun k e => by
    rcases hblk k e with e | e
    · exact (foot_ne h.nd).1 k e
    · omega
  have hk3 : Kept w2 (w2.setCell ⟨p, 0, none⟩ (.slice va vl vc)) (fun k => k = p) := Kept.setCell (Kept.refl _ (fun k => k = p)) ⟨p, 0, none⟩ _ (fun _ => rfl)
  have hk : Kept w (w2.setCell ⟨p, 0, none⟩ (.slice va vl vc)) (rowS p fv) := hkw.trans' hk3 (fun k _ e => .inr e) (fun k _ e => .inl e)
  refine ⟨rfl, .slice va vl vc, ?_, hk, hblk⟩
  rw [← HPP.out]
  have hPd : P ≤ D.files.length := by rw [← h.len]; exact hPl
  refine ⟨heap_setK _ hrow2, ?_, ?_, fun k m' f' hm' hf' => ?_, ?_⟩
  · have := h.len; simp; omega
  · have e1 : (ms.take P ++ m :: ms.drop P).length = ms.length + 1 := by simp; omega
    have e2 : ptrs (ms.take P ++ m :: ms.drop P) = (ptrs ms).take P ++ .pointer (some ⟨m.q, 0, none⟩) :: (ptrs ms).drop P := by simp [ptrs, List.map_take, List.map_drop]
    rw [e1, e2]
    exact row_kept' ht.own hk3 hvp
  · simp only at hf'
    rw [getElem?_ins _ _ _ _ hPl] at hm'
    rw [getElem?_ins _ _ _ _ hPd] at hf'
    by_cases h1 : k < P
    · rw [if_pos h1] at hm' hf'
      exact (h.file k m' f' hm' hf').keptRow hk (fun k hk => foot_row h.nd (List.mem_of_getElem? hm') hk)
    · rw [if_neg h1] at hm' hf'
      by_cases h2 : k = P
      · rw [if_pos h2] at hm' hf'
        cases hm'
        cases hf'
        exact hf.keptRow hk (fun k hk e => hap k hk (row_foot e))
      · rw [if_neg h2] at hm' hf'
        exact (h.file _ m' f' hm' hf').keptRow hk (fun k hk => foot_row h.nd (List.mem_of_getElem? hm') hk)
  · refine (foot_insert m P).nodup_iff.2 ?_
    have hnf : (foot p (.slice va vl vc) ms).Nodup := by
      have h1 := List.nodup_cons.1 h.nd
      have h2 := List.nodup_append.1 h1.2
      refine List.nodup_cons.2 ⟨fun e => ?_, List.nodup_append.2 ⟨?_, h2.2.1, fun a ha b hb e => ?_⟩⟩
      · rcases List.mem_append.1 e with e | e
        · cases hv : (Value.slice va vl vc).ownBlock with
          | none => rw [hv] at e; simp at e
          | some j => rw [hv] at e; simp at e; exact hvp j hv e.symm
        · exact h1.1 (List.mem_append_right _ e)
      · cases (Value.slice va vl vc).ownBlock <;> simp
      · cases hv : (Value.slice va vl vc).ownBlock with
        | none => rw [hv] at ha; simp at ha
        | some j =>
          rw [hv] at ha
          simp at ha
          subst ha
          subst e
          rcases hblk a hv with e | e
          · exact h2.2.2 a (by rw [e]; simp) a hb rfl
          · have := h.lt (p := p) (fv := fv) (ms := ms) (k := a) (List.mem_cons_of_mem _ (List.mem_append_right _ hb)); omega
    refine List.nodup_append.2 ⟨hnd, hnf, fun a ha b hb e => ?_⟩
    subst e
    rcases mem_foot hb with e | e | ⟨m', hm', e⟩
    · exact hap a ha (by rw [e]; exact mem_foot_p)
    · rcases hblk a e with e | e
      · exact hap a ha (mem_foot_fv e)
      · have : a < w.heap.size := by
          rcases List.mem_cons.1 ha with rfl | ha
          · exact lt_of_block hf.row
          · cases hv : m.v.ownBlock with
            | none => rw [hv] at ha; simp at ha
            | some j => rw [hv] at ha; simp at ha; rw [ha]; exact rows_ltK hf.own hv
        omega
    · rcases e with e | e
      · exact hap a ha (by rw [e]; exact mem_foot_q hm')
      · exact hap a ha (mem_foot_v hm' e)
end Go.Proofs.YtdhnbgeijfgfaaaGreatDoor
