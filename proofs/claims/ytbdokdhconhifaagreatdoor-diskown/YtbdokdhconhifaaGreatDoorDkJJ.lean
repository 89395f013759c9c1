/- No text of this seat deletes. -/
import Derived.Test.YtbdokdhconhifaaGreatDoorProg
import Derived.Test.YtbdokdhconhifaaGreatDoorDkFJ

/- A disk's row of files: one taken out, one put in. -/
namespace Go.Proofs.YtbdokdhconhifaaGreatDoor
open Go.RowKit Go.Shelf Go.Sort
set_option maxRecDepth 8000

theorem one_allocK (w : World) (o : Obj) : Below w.heap.size w (w.alloc o) := (Below.refl _ w).alloc (Nat.le_refl _) _

abbrev qa (m : FiM) : Option Addr := some ⟨m.q, 0, none⟩

theorem ptrs_eq (ms : List FiM) : ptrs ms = (ms.map qa).map Value.pointer := by simp [ptrs, qa]

theorem take_putCellsP (cur : Array Value) (ts : List (Option Addr)) (h : ts.length ≤ cur.size) (k : Nat) (hk : k ≤ ts.length) : (putCells Value.pointer 0 ts.toArray cur).toList.take k = (ts.take k).map Value.pointer := by
  apply List.ext_getElem?
  intro j
  by_cases hj : j < k
  · rw [List.getElem?_take_of_lt hj, Array.getElem?_toList]
    simp [putCells, hj, show j < ts.length by omega, show j < cur.size by omega]
  · rw [List.getElem?_take_eq_none (by omega), List.getElem?_eq_none (by simp; omega)]

theorem foot_same {p : Nat} {fv fv' : Value} {ms : List FiM} (h : fv'.ownBlock = fv.ownBlock) : foot p fv' ms = foot p fv ms := by unfold foot; rw [h]

theorem foot_erase {p : Nat} {fv : Value} {ms : List FiM} (i : Nat) : (foot p fv (ms.eraseIdx i)).Sublist (foot p fv ms) := by
  unfold foot
  refine List.Sublist.cons_cons _ (List.Sublist.append (List.Sublist.refl _) ?_)
  induction ms generalizing i with
  | nil => simp
  | cons m ms ih =>
    cases i with
    | zero => simp [List.flatMap_cons]
    | succ i => simp only [List.eraseIdx_cons_succ, List.flatMap_cons]; exact List.Sublist.append (List.Sublist.refl _) (ih i)

theorem foot_insert {p : Nat} {fv : Value} {ms : List FiM} (m : FiM) (i : Nat) : (foot p fv (ms.take i ++ m :: ms.drop i)).Perm (m.blks ++ foot p fv ms) := by
  have e : ms.flatMap FiM.blks = (ms.take i).flatMap FiM.blks ++ (ms.drop i).flatMap FiM.blks := by rw [← List.flatMap_append, List.take_append_drop]
  unfold foot
  rw [List.flatMap_append, List.flatMap_cons, e]
  have h1 : ((ms.take i).flatMap FiM.blks ++ (m.blks ++ (ms.drop i).flatMap FiM.blks)).Perm (m.blks ++ ((ms.take i).flatMap FiM.blks ++ (ms.drop i).flatMap FiM.blks)) := by
    rw [← List.append_assoc, ← List.append_assoc]
    exact List.Perm.append_right _ List.perm_append_comm
  have h2 : ∀ X : List Nat, (fv.ownBlock.toList ++ (m.blks ++ X)).Perm (m.blks ++ (fv.ownBlock.toList ++ X)) := fun X => by
    rw [← List.append_assoc, ← List.append_assoc]
    exact List.Perm.append_right _ List.perm_append_comm
  refine ((List.Perm.append_left _ h1).trans (h2 _)).cons p |>.trans ?_
  exact (List.perm_middle (a := p) (l₁ := m.blks)).symm

/-- A step that changed the disk's own block and the row alone. -/
abbrev rowS (p : Nat) (fv : Value) : Nat → Prop := fun k => k = p ∨ fv.ownBlock = some k

theorem row_foot {p k : Nat} {fv : Value} {ms : List FiM} (h : rowS p fv k) : k ∈ foot p fv ms := by
  rcases h with rfl | h
  · exact mem_foot_p
  · exact mem_foot_fv h

theorem foot_row {p : Nat} {fv : Value} {ms : List FiM} (h : (foot p fv ms).Nodup) {m : FiM} (hm : m ∈ ms) {k : Nat} (hk : k ∈ m.blks) : ¬ rowS p fv k := by
  intro e
  have h1 := List.nodup_cons.1 h
  have h2 := List.nodup_append.1 h1.2
  have hkm : k ∈ ms.flatMap FiM.blks := List.mem_flatMap.2 ⟨m, hm, hk⟩
  rcases e with rfl | e
  · exact h1.1 (List.mem_append_right _ hkm)
  · exact h2.2.2 k (by rw [e]; simp) k hkm rfl

theorem blks_q (m : FiM) : m.q ∈ m.blks := List.mem_cons_self ..
theorem blks_v {m : FiM} {k : Nat} (h : m.v.ownBlock = some k) : k ∈ m.blks := List.mem_cons_of_mem _ (by rw [h]; simp)

theorem FileAt.keptRow {w w' : World} {p : Nat} {fv : Value} {m : FiM} {f : FiD} (h : FileAt w m f) (hk : Kept w w' (rowS p fv)) (hn : ∀ k ∈ m.blks, ¬ rowS p fv k) : FileAt w' m f :=
  h.kept hk (hn _ (blks_q m)) (fun k e => hn k (blks_v e))

/-- Where drop looks: past the end where there is no such file. -/
def dropI (fs : List FiD) (n : ByteArray) : Nat := if hasF fs n then pl fs n else fs.length

theorem getElem?_erase {α : Type} (l : List α) (i k : Nat) : (l.eraseIdx i)[k]? = if k < i then l[k]? else l[k + 1]? := List.getElem?_eraseIdx

theorem getElem?_ins {α : Type} (l : List α) (i k : Nat) (x : α) (hi : i ≤ l.length) : (l.take i ++ x :: l.drop i)[k]? = if k < i then l[k]? else if k = i then some x else l[k - 1]? := by
  by_cases h1 : k < i
  · rw [if_pos h1, List.getElem?_append_left (by simp; omega), List.getElem?_take, if_pos h1]
  · rw [if_neg h1, List.getElem?_append_right (by simp; omega)]
    have hl : (l.take i).length = i := by simp; omega
    rw [hl]
    by_cases h2 : k = i
    · rw [if_pos h2, h2, Nat.sub_self]; rfl
    · rw [if_neg h2, show k - i = (k - 1 - i) + 1 by omega, List.getElem?_cons_succ, List.getElem?_drop]
      congr 1
      omega

/-- What a put leaves: the file among the others. -/
structure PutTo (w : World) (p : Nat) (fv : Value) (ms : List FiM) (D : DkD) (m : FiM) (f : FiD) (w' : World) (fv' : Value) : Prop where
  is : IsDk w' p fv' (ms.take (pl D.files f.name) ++ m :: ms.drop (pl D.files f.name)) { D with files := D.files.take (pl D.files f.name) ++ f :: D.files.drop (pl D.files f.name) }
  kept : Kept w w' (rowS p fv)
  blk : ∀ k, fv'.ownBlock = some k → fv.ownBlock = some k ∨ w.heap.size ≤ k

set_option maxHeartbeats 1000000 in
theorem put_any {w : World} {p : Nat} {fv : Value} {ms : List FiM} {D : DkD} (h : IsDk w p fv ms D) (hr : Rise D.files) (hfew : D.files.length ≤ 63) {m : FiM} {f : FiD} (hf : FileAt w m f) (hnd : m.blks.Nodup) (hap : ∀ k ∈ m.blks, k ∉ foot p fv ms) :
    Calls Tryz.prog 97 #[.pointer (some ⟨p, 0, none⟩), .pointer (some ⟨m.q, 0, none⟩)] w fun e w' => e = .returned (.tuple #[]) ∧ ∃ fv', PutTo w p fv ms D m f w' fv' := by
  obtain ⟨c0, c1, c2, c3, c4, c5⟩ := h.cells
  obtain ⟨q0, q1, q2⟩ := fl_cells' hf
  have hl := lt_of_block h.row
  have hlq := lt_of_block hf.row
  have HP : Hid _ := place_any h hr (by omega) f.name
  obtain ⟨P, hP⟩ : ∃ P, P = pl D.files f.name := ⟨_, rfl⟩
  have hPl : P ≤ ms.length := by rw [hP, h.len]; exact pl_le _ _
  have HPP : Hid _ := hP
  have HA : Hid (IsDk w p fv ms D ∧ FileAt w m f ∧ m.blks.Nodup ∧ ∀ k ∈ m.blks, k ∉ foot p fv ms) := ⟨h, hf, hnd, hap⟩
  have f0 : w.frozen? ⟨p, 0, none⟩ = false := frozen_of_row w p 0 _ _ h.row
  obtain ⟨fa, fc, hfv, _⟩ := fv_shape h
  have HFV : Hid _ := hfv
  have HI : Hid (∀ V : World, V = w.alloc (.cells #[.pointer (some ⟨m.q, 0, none⟩)] 90) → Calls Tryz.prog 104 #[fv, .int .i64 P, .slice (some ⟨w.heap.size, 0, none⟩) 1 1] V fun e w' => ∃ va vl vc, e = .returned (.slice va vl vc) ∧ InsTo V fv (ms.length + 1) ((ptrs ms).take P ++ .pointer (some ⟨m.q, 0, none⟩) :: (ptrs ms).drop P) w' (.slice va vl vc)) := fun V hV => by
    subst hV
    refine (insert_any (row_kept' h.own (Below.kept (one_allocK w _)) (fun k e e' => by have := h.lt (mem_foot_fv e); omega)) (fun u hu => by obtain ⟨m', _, rfl⟩ := List.mem_map.1 hu; rfl) (.pointer (some ⟨m.q, 0, none⟩)) rfl w.heap.size (heap_alloc_new w _) (fun e => by have := h.lt (mem_foot_fv e); omega) P hPl (by rw [h.len]; omega)).mono ?_
    rintro e w' ⟨v', rfl, ht⟩
    obtain ⟨va, vl, vc, rfl⟩ : ∃ va vl vc, v' = .slice va vl vc := by
      obtain ⟨_, ⟨rfl, _⟩ | ⟨g, cap, cur, rfl, _⟩⟩ := ht.own
      · exact ⟨_, _, _, rfl⟩
      · exact ⟨_, _, _, rfl⟩
    exact ⟨va, vl, vc, rfl, ht⟩
  rw [← hP] at HP
  rw [hfv] at c0 HI
  clear h hf hr hnd hap hP hfv
  go_enter Tryz.func97, Tryz.ntmps97
  go_wp2_with fail
  refine Calls.mono HP.out ?_
  rintro e w1 ⟨rfl, hw1⟩
  subst w1
  clear HP
  go_wp2_with fail
  refine Calls.mono (HI.out _ rfl) ?_
  rintro e w2 ⟨va, vl, vc, rfl, ht⟩
  have hb1 := one_allocK w (.cells #[.pointer (some ⟨m.q, 0, none⟩)] 90)
  have hkw : Kept w w2 (fun k => fv.ownBlock = some k) := by
    rw [HFV.out]
    exact (Below.kept hb1).trans' ht.kept (fun k hk e => by omega) (fun k _ e => e)
  have hpr : fv.ownBlock ≠ some p := fun e => (foot_ne HA.out.1.nd).1 p e rfl
  have hrow2 : w2.heap[p]? = some (.cells (dkQ fv D.room D.on D.armed D.writes) 76 (0, 0)) := hkw.heap HA.out.1.row hpr
  have g0 : w2.frozen? ⟨p, 0, none⟩ = false := frozen_of_row w2 p 0 _ _ hrow2
  have g1 : w2.cell? ⟨p, 0, none⟩ = some fv := cell_of_row w2 p 0 _ _ _ hrow2
  rw [HFV.out] at g1
  have hl2 := lt_of_block hrow2
  rw [← HFV.out] at ht
  have H2 : Hid (InsTo _ _ _ _ w2 (.slice va vl vc) ∧ Kept w w2 (fun k => fv.ownBlock = some k) ∧ w2.heap[p]? = some (.cells (dkQ fv D.room D.on D.armed D.writes) 76 (0, 0))) := ⟨ht, hkw, hrow2⟩
  clear ht hkw hrow2 HI hb1 hpr
  go_wp2_with fail
  go_end0
  obtain ⟨ht, hkw, hrow2⟩ := H2.out
  obtain ⟨h, hf, hnd, hap⟩ := HA.out
  have hszw : w.heap.size ≤ (w.alloc (.cells #[.pointer (some ⟨m.q, 0, none⟩)] 90)).heap.size := by simp
  have hblk : ∀ k, (Value.slice va vl vc).ownBlock = some k → fv.ownBlock = some k ∨ w.heap.size ≤ k := fun k e => by
    rcases ht.blk k e with e | e
    · exact .inl e
    · exact .inr (Nat.le_trans hszw e)
  have hvp : ∀ k, (Value.slice va vl vc).ownBlock = some k → k ≠ p := fun k e => by
    rcases hblk k e with e | e
    · exact (foot_ne h.nd).1 k e
    · omega
  have hk3 : Kept w2 (w2.setCell ⟨p, 0, none⟩ (.slice va vl vc)) (fun k => k = p) := Kept.setCell (Kept.refl _ (fun k => k = p)) ⟨p, 0, none⟩ _ (fun _ => rfl)
  have hk : Kept w (w2.setCell ⟨p, 0, none⟩ (.slice va vl vc)) (rowS p fv) := hkw.trans' hk3 (fun k _ e => .inr e) (fun k _ e => .inl e)
  refine ⟨rfl, .slice va vl vc, ?_, hk, hblk⟩
  rw [← HPP.out]
  have hPd : P ≤ D.files.length := by rw [← h.len]; exact hPl
  refine ⟨heap_setK _ hrow2, ?_, ?_, fun k m' f' hm' hf' => ?_, ?_⟩
  · have := h.len; simp; omega
  · have e1 : (ms.take P ++ m :: ms.drop P).length = ms.length + 1 := by simp; omega
    have e2 : ptrs (ms.take P ++ m :: ms.drop P) = (ptrs ms).take P ++ .pointer (some ⟨m.q, 0, none⟩) :: (ptrs ms).drop P := by simp [ptrs, List.map_take, List.map_drop]
    rw [e1, e2]
    exact row_kept' ht.own hk3 hvp
  · simp only at hf'
    rw [getElem?_ins _ _ _ _ hPl] at hm'
    rw [getElem?_ins _ _ _ _ hPd] at hf'
    by_cases h1 : k < P
    · rw [if_pos h1] at hm' hf'
      exact (h.file k m' f' hm' hf').keptRow hk (fun k hk => foot_row h.nd (List.mem_of_getElem? hm') hk)
    · rw [if_neg h1] at hm' hf'
      by_cases h2 : k = P
      · rw [if_pos h2] at hm' hf'
        cases hm'
        cases hf'
        exact hf.keptRow hk (fun k hk e => hap k hk (row_foot e))
      · rw [if_neg h2] at hm' hf'
        exact (h.file _ m' f' hm' hf').keptRow hk (fun k hk => foot_row h.nd (List.mem_of_getElem? hm') hk)
  · refine (foot_insert m P).nodup_iff.2 ?_
    have hnf : (foot p (.slice va vl vc) ms).Nodup := by
      have h1 := List.nodup_cons.1 h.nd
      have h2 := List.nodup_append.1 h1.2
      refine List.nodup_cons.2 ⟨fun e => ?_, List.nodup_append.2 ⟨?_, h2.2.1, fun a ha b hb e => ?_⟩⟩
      · rcases List.mem_append.1 e with e | e
        · cases hv : (Value.slice va vl vc).ownBlock with
          | none => rw [hv] at e; simp at e
          | some j => rw [hv] at e; simp at e; exact hvp j hv e.symm
        · exact h1.1 (List.mem_append_right _ e)
      · cases (Value.slice va vl vc).ownBlock <;> simp
      · cases hv : (Value.slice va vl vc).ownBlock with
        | none => rw [hv] at ha; simp at ha
        | some j =>
          rw [hv] at ha
          simp at ha
          subst ha
          subst e
          rcases hblk a hv with e | e
          · exact h2.2.2 a (by rw [e]; simp) a hb rfl
          · have := h.lt (p := p) (fv := fv) (ms := ms) (k := a) (List.mem_cons_of_mem _ (List.mem_append_right _ hb)); omega
    refine List.nodup_append.2 ⟨hnd, hnf, fun a ha b hb e => ?_⟩
    subst e
    rcases mem_foot hb with e | e | ⟨m', hm', e⟩
    · exact hap a ha (by rw [e]; exact mem_foot_p)
    · rcases hblk a e with e | e
      · exact hap a ha (mem_foot_fv e)
      · have : a < w.heap.size := by
          rcases List.mem_cons.1 ha with rfl | ha
          · exact lt_of_block hf.row
          · cases hv : m.v.ownBlock with
            | none => rw [hv] at ha; simp at ha
            | some j => rw [hv] at ha; simp at ha; rw [ha]; exact rows_ltK hf.own hv
        omega
    · rcases e with e | e
      · exact hap a ha (by rw [e]; exact mem_foot_q hm')
      · exact hap a ha (mem_foot_v hm' e)
end Go.Proofs.YtbdokdhconhifaaGreatDoor

/- A disk's row of files: a new file, a file under another name. -/
namespace Go.Proofs.YtbdokdhconhifaaGreatDoor
open Go.RowKit Go.Shelf
set_option maxRecDepth 8000

def insF (fs : List FiD) (f : FiD) : List FiD := fs.take (pl fs f.name) ++ f :: fs.drop (pl fs f.name)

theorem insM_mem {α : Type} {l : List α} {i : Nat} {x a : α} (h : a ∈ l.take i ++ x :: l.drop i) : a = x ∨ a ∈ l := by
  rcases List.mem_append.1 h with h | h
  · exact .inr (List.mem_of_mem_take h)
  · rcases List.mem_cons.1 h with h | h
    · exact .inl h
    · exact .inr (List.mem_of_mem_drop h)

theorem foot_ins {p k : Nat} {fv fv' : Value} {ms : List FiM} {m : FiM} {i : Nat} {n : Nat} (hb : ∀ k, fv'.ownBlock = some k → fv.ownBlock = some k ∨ n ≤ k) (h : k ∈ foot p fv' (ms.take i ++ m :: ms.drop i)) : k ∈ m.blks ∨ k ∈ foot p fv ms ∨ n ≤ k := by
  rcases mem_foot h with rfl | e | ⟨m', hm', e⟩
  · exact .inr (.inl mem_foot_p)
  · rcases hb k e with e | e
    · exact .inr (.inl (mem_foot_fv e))
    · exact .inr (.inr e)
  · rcases insM_mem hm' with rfl | hm'
    · left
      rcases e with rfl | e
      · exact blks_q _
      · exact blks_v e
    · right; left
      rcases e with rfl | e
      · exact mem_foot_q hm'
      · exact mem_foot_v hm' e

set_option maxHeartbeats 400000 in
theorem dkAdd_any {w : World} {p : Nat} {fv : Value} {ms : List FiM} {D : DkD} (h : IsDk w p fv ms D) (hr : Rise D.files) (hfew : D.files.length ≤ 63) (n : ByteArray) :
    Calls Tryz.prog 68 #[.pointer (some ⟨p, 0, none⟩), .string n] w fun e w' => e = .returned (.pointer (some ⟨w.heap.size, 0, none⟩)) ∧ ∃ fv', DkTo w p fv ms w' { D with files := insF D.files ⟨n, [], 0⟩ } fv' (ms.take (pl D.files n) ++ ⟨w.heap.size, .slice none 0 0⟩ :: ms.drop (pl D.files n)) := by
  have HP : Hid (∀ V : World, V = w.alloc (.cells (flQ n (.slice none 0 0) 0) 122) → Calls Tryz.prog 97 #[.pointer (some ⟨p, 0, none⟩), .pointer (some ⟨w.heap.size, 0, none⟩)] V fun e w' => e = .returned (.tuple #[]) ∧ ∃ fv', DkTo w p fv ms w' { D with files := insF D.files ⟨n, [], 0⟩ } fv' (ms.take (pl D.files n) ++ ⟨w.heap.size, .slice none 0 0⟩ :: ms.drop (pl D.files n))) := fun V hV => by
    subst hV
    have hb := one_allocK w (.cells (flQ n (.slice none 0 0) 0) 122)
    have hf : FileAt (w.alloc (.cells (flQ n (.slice none 0 0) 0) 122)) ⟨w.heap.size, .slice none 0 0⟩ ⟨n, [], 0⟩ := ⟨heap_alloc_new w _, ⟨by simp, .inl ⟨rfl, rfl⟩⟩⟩
    refine (put_any (h.later hb) hr hfew hf (by simp [FiM.blks, Value.ownBlock]) (fun k hk e => by
      have := h.lt e
      simp [FiM.blks, Value.ownBlock] at hk
      omega)).mono ?_
    rintro e w' ⟨rfl, fv', hp⟩
    refine ⟨rfl, fv', hp.is, (Below.kept hb).trans' hp.kept (fun k hk e => by omega) (fun k hk e => row_foot e), fun k hk => ?_⟩
    rcases foot_ins hp.blk hk with e | e | e
    · simp [FiM.blks, Value.ownBlock] at e; exact .inr (by omega)
    · exact .inl e
    · exact .inr (by have : (w.alloc (.cells (flQ n (.slice none 0 0) 0) 122)).heap.size = w.heap.size + 1 := by simp
                     omega)
  have hl := lt_of_block h.row
  clear h hr
  go_enter Tryz.func68, Tryz.ntmps68
  go_wp2_with fail
  refine Calls.mono (HP.out _ rfl) ?_
  rintro e w1 ⟨rfl, hw1⟩
  have HW : Hid _ := hw1
  clear hw1 HP
  go_wp2_with fail
  go_ret
  exact ⟨rfl, HW.out⟩

/-- Another name for a file; one that had it goes. -/
def movF (fs : List FiD) (a b : ByteArray) (f : FiD) : List FiD := insF ((fs.eraseIdx (dropI fs a)).eraseIdx (dropI (fs.eraseIdx (dropI fs a)) b)) ⟨b, f.bytes, f.dur⟩

theorem nodup_blks {p : Nat} {fv : Value} {ms : List FiM} (h : (foot p fv ms).Nodup) {m : FiM} (hm : m ∈ ms) : m.blks.Nodup := by
  have h1 := (List.nodup_append.1 (List.nodup_cons.1 h).2).2.1
  clear h
  induction ms with
  | nil => cases hm
  | cons a ms ih =>
    rw [List.flatMap_cons] at h1
    have h2 := List.nodup_append.1 h1
    rcases List.mem_cons.1 hm with rfl | hm
    · exact h2.1
    · exact ih hm h2.2.1

theorem erase_apart {p : Nat} {fv : Value} {ms : List FiM} (h : (foot p fv ms).Nodup) (i : Nat) (hi : i < ms.length) : ∀ k ∈ ms[i].blks, k ∉ foot p fv (ms.eraseIdx i) := by
  intro k hk e
  have e1 : ms = (ms.eraseIdx i).take i ++ ms[i] :: (ms.eraseIdx i).drop i := by
    rw [List.eraseIdx_eq_take_drop_succ]
    have hl : (ms.take i).length = i := by simp; omega
    rw [List.take_append_of_le_length (by omega), List.take_of_length_le (by omega), List.drop_append_of_le_length (by omega), List.drop_eq_nil_of_le (by omega), List.nil_append]
    rw [← List.drop_eq_getElem_cons hi, List.take_append_drop]
  rw [e1] at h
  have h2 := (foot_insert ms[i] i).nodup_iff.1 h
  exact (List.nodup_append.1 h2).2.2 k hk k e rfl

end Go.Proofs.YtbdokdhconhifaaGreatDoor
/- A disk's calls that find a file: open, Sync, Cut, Remove, Rename, Read. -/
namespace Go.Proofs.YtbdokdhconhifaaGreatDoor
open Go.RowKit Go.Shelf
set_option maxRecDepth 8000

/-- What always holds of a disk's data. -/
structure DkOk (D : DkD) : Prop where
  rise : Rise D.files
  few : D.files.length ≤ 64
  nms : ∀ f ∈ D.files, isNm f.name = true
  durs : ∀ f ∈ D.files, 0 ≤ f.dur ∧ f.dur ≤ f.bytes.length
  r0 : 0 ≤ D.room
  r1 : D.room ≤ 16777216
  fits : (usedD D.files : Int) ≤ D.room
  a0 : -1 ≤ D.armed
  a1 : D.armed ≤ 9223372036854775807
  w0 : 0 ≤ D.writes

theorem len_used {fs : List FiD} {f : FiD} (h : f ∈ fs) : f.bytes.length ≤ usedD fs := by
  induction fs with
  | nil => cases h
  | cons a fs ih =>
    unfold usedD at *
    simp only [List.map_cons, List.sum_cons]
    rcases List.mem_cons.1 h with rfl | h
    · omega
    · have := ih h; omega

theorem set_eq {α : Type} (l : List α) (i : Nat) (x : α) (hi : i < l.length) : l.set i x = (l.eraseIdx i).take i ++ x :: (l.eraseIdx i).drop i := by
  have hl : (l.take i).length = i := by simp; omega
  rw [List.eraseIdx_eq_take_drop_succ, List.take_append_of_le_length (by omega), List.take_of_length_le (by omega), List.drop_append_of_le_length (by omega), List.drop_eq_nil_of_le (by omega), List.nil_append, List.set_eq_take_append_cons_drop, if_pos hi]

/-- A step at one of the files. -/
theorem IsDk.setFile {w w' : World} {p : Nat} {fv : Value} {ms : List FiM} {D : DkD} (h : IsDk w p fv ms D) {i : Nat} {m m' : FiM} {f' : FiD} (hm : ms[i]? = some m) (ht : FlTo w m w' m' f') : DkTo w p fv ms w' { D with files := D.files.set i f' } fv (ms.set i m') := by
  have hi : i < ms.length := (List.getElem?_eq_some_iff.1 hm).1
  have hmm : ms[i] = m := (List.getElem?_eq_some_iff.1 hm).2
  have hmem : m ∈ ms := List.mem_of_getElem? hm
  have hfm : ∀ k ∈ m.blks, k ∈ foot p fv ms := fun k hk => by
    rcases List.mem_cons.1 hk with rfl | hk'
    · exact mem_foot_q hmem
    · cases hv : m.v.ownBlock with
      | none => rw [hv] at hk'; simp at hk'
      | some j => rw [hv] at hk'; simp at hk'; rw [hk']; exact mem_foot_v hmem hv
  have hap := erase_apart h.nd i hi
  rw [hmm] at hap
  have hlt : m.q < w.heap.size := h.lt (mem_foot_q hmem)
  have hbl : ∀ k ∈ m'.blks, k ∈ m.blks ∨ w.heap.size ≤ k := fun k hk => by
    rcases List.mem_cons.1 hk with rfl | hk'
    · rw [ht.q]; exact .inl (blks_q m)
    · cases hv : m'.v.ownBlock with
      | none => rw [hv] at hk'; simp at hk'
      | some j =>
        rw [hv] at hk'; simp at hk'; rw [hk']
        rcases ht.v j hv with e | e
        · exact .inl (blks_v e)
        · exact .inr e
  have hndm := nodup_blks h.nd hmem
  have hnd' : m'.blks.Nodup := by
    refine List.nodup_cons.2 ⟨fun e => ?_, by cases m'.v.ownBlock <;> simp⟩
    cases hv : m'.v.ownBlock with
    | none => rw [hv] at e; simp at e
    | some j =>
      rw [hv] at e; simp at e
      rw [ht.q] at e
      rcases ht.v j hv with e' | e'
      · have := (List.nodup_cons.1 hndm).1
        rw [e', e] at this
        simp at this
      · omega
  refine ⟨⟨ht.kept.heap h.row (fun e => ?_), by simp [h.len], ?_, fun k mk fk hmk hfk => ?_, ?_⟩, ht.kept.mono (fun k _ e => hfm k e), fun k hk => ?_⟩
  · exact (List.nodup_cons.1 h.nd).1 (List.mem_append_right _ (List.mem_flatMap.2 ⟨m, hmem, e⟩))
  · rw [List.length_set]
    have e : ptrs (ms.set i m') = ptrs ms := by
      apply List.ext_getElem?
      intro j
      simp only [ptrs, List.getElem?_map, List.getElem?_set]
      by_cases hj : i = j
      · subst hj
        rw [if_pos rfl, if_pos hi, hm]
        simp [ht.q]
      · rw [if_neg hj]
    rw [e]
    exact row_kept' h.own ht.kept (fun k e e' => (foot_row h.nd hmem e') (.inr e))
  · simp only at hfk
    rw [List.getElem?_set] at hmk hfk
    by_cases hj : i = k
    · subst hj
      rw [if_pos rfl, if_pos hi] at hmk
      rw [if_pos rfl, if_pos (by rw [← h.len]; exact hi)] at hfk
      cases hmk
      cases hfk
      exact ht.is
    · rw [if_neg hj] at hmk hfk
      have hne : ∀ x ∈ mk.blks, x ∉ m.blks := fun x hx e => by
        have hmk' : mk ∈ ms.eraseIdx i := by
          rw [List.mem_iff_getElem?]
          by_cases hki : k < i
          · exact ⟨k, by rw [getElem?_erase, if_pos hki]; exact hmk⟩
          · exact ⟨k - 1, by rw [getElem?_erase, if_neg (by omega), show k - 1 + 1 = k by omega]; exact hmk⟩
        refine hap x e ?_
        rcases List.mem_cons.1 hx with rfl | hx'
        · exact mem_foot_q hmk'
        · cases hv : mk.v.ownBlock with
          | none => rw [hv] at hx'; simp at hx'
          | some j => rw [hv] at hx'; simp at hx'; rw [hx']; exact mem_foot_v hmk' hv
      exact (h.file k mk fk hmk hfk).kept ht.kept (hne _ (blks_q mk)) (fun x e => hne x (blks_v e))
  · rw [set_eq ms i m' hi]
    refine (foot_insert m' i).nodup_iff.2 (List.nodup_append.2 ⟨hnd', (h.nd).sublist (foot_erase i), fun a ha b hb e => ?_⟩)
    subst e
    rcases hbl a ha with e | e
    · exact hap a e hb
    · have := h.lt ((foot_erase i).subset hb); omega
  · rw [set_eq ms i m' hi] at hk
    rcases foot_ins (n := w.heap.size) (fun k e => .inl e) hk with e | e | e
    · rcases hbl k e with e | e
      · exact .inl (hfm k e)
      · exact .inr e
    · exact .inl ((foot_erase i).subset e)
    · exact .inr e

/-- What open says. -/
def DkD.errO (D : DkD) (n : ByteArray) : Int := if D.on then (if isNm n then (if hasF D.files n then 0 else 20) else 22) else 23

theorem errO_zero {D : DkD} {n : ByteArray} (h : D.errO n = 0) : D.on = true ∧ isNm n = true ∧ hasF D.files n = true := by
  unfold DkD.errO at h
  cases h1 : D.on <;> rw [h1] at h
  · simp at h
  · cases h2 : isNm n <;> rw [h2] at h
    · simp at h
    · cases h3 : hasF D.files n <;> rw [h3] at h
      · simp at h
      · exact ⟨rfl, rfl, rfl⟩

set_option maxHeartbeats 1000000 in
theorem open_any {w : World} {p : Nat} {fv : Value} {ms : List FiM} {D : DkD} (h : IsDk w p fv ms D) (ok : DkOk D) (n : ByteArray) :
    Calls Tryz.prog 34 #[.pointer (some ⟨p, 0, none⟩), .string n] w fun e w' => (∃ q, e = .returned (.tuple #[.pointer q, .int .i64 (D.errO n)]) ∧ (D.errO n = 0 → ∃ m, ms[pl D.files n]? = some m ∧ q = some ⟨m.q, 0, none⟩)) ∧ Below w.heap.size w w' := by
  obtain ⟨V, eV⟩ : ∃ V, V = w.alloc (.cells #[.string n] 9) := ⟨_, rfl⟩
  have hbV : Below w.heap.size w V := by rw [eV]; exact one_allocK _ _
  have hV : IsDk V p fv ms D := h.later hbV
  have hR := ready_any hV w.heap.size [n] (fun k x hk => by
    cases k with
    | zero => simp at hk; subst hk; rw [eV]; exact cell_of_row _ _ 0 _ _ _ (heap_alloc_new w _)
    | succ k => simp at hk) (by simp)
  have hF := find_any hV ok.rise ok.few n
  have hl := lt_of_block h.row
  have hlV := lt_of_block hV.row
  have HB : Hid (Below w.heap.size w V) := hbV
  have HE : Hid _ := eV
  simp only [List.all_cons, List.all_nil, Bool.and_true, List.length_singleton] at hR
  have HM : Hid (hasF D.files n = true → ∃ m, ms[pl D.files n]? = some m) := fun e => by
    obtain ⟨hlt, _⟩ := (hasF_iff _ _).1 e
    exact ⟨_, List.getElem?_eq_getElem (by rw [h.len]; exact hlt)⟩
  obtain ⟨E, hE⟩ : ∃ E, E = D.errO n := ⟨_, rfl⟩
  rw [← hE]
  have HX : Hid (D.on = false → E = 23) := fun e => by rw [hE]; unfold DkD.errO; rw [e]; rfl
  have HY : Hid (D.on = true → isNm n = false → E = 22) := fun e e2 => by rw [hE]; unfold DkD.errO; rw [e, e2]; rfl
  have HZ : Hid (D.on = true → isNm n = true → hasF D.files n = false → E = 20) := fun e e2 e3 => by rw [hE]; unfold DkD.errO; rw [e, e2, e3]; rfl
  have HT : Hid (D.on = true → isNm n = true → hasF D.files n = true → E = 0) := fun e e2 e3 => by rw [hE]; unfold DkD.errO; rw [e, e2, e3]; rfl
  clear h hV ok eV hbV hE
  by_cases hq : D.on = true ∧ isNm n = true
  · obtain ⟨hon, hnm⟩ := hq
    rw [hon, hnm] at hR
    have HR : Hid _ := hR
    clear hR
    cases hb : hasF D.files n
    · rw [hb] at hF
      have HF : Hid _ := hF
      have H20 : Hid _ := HZ.out hon hnm hb
      clear hF HX HY HZ HT hon hnm hb HM
      go_enter Tryz.func34, Tryz.ntmps34
      go_wp2_with fail
      rw [← HE.out]
      refine Calls.mono HR.out ?_
      rintro e w1 ⟨rfl, hw1⟩
      subst w1
      go_wp2_with fail
      refine Calls.mono HF.out ?_
      rintro e w1 ⟨rfl, hw1⟩
      subst w1
      go_wp2_with fail
      go_ret2
      refine ⟨⟨none, by rw [H20.out]; rfl, fun e => ?_⟩, HB.out⟩
      rw [H20.out] at e
      cases e
    · obtain ⟨m, hm⟩ := HM.out hb
      rw [if_pos hb, hm] at hF
      have HF : Hid _ := hF
      have HQ : Hid _ := hm
      have H0 : Hid _ := HT.out hon hnm hb
      clear hF hm HM HX HY HZ HT hon hnm hb
      go_enter Tryz.func34, Tryz.ntmps34
      go_wp2_with fail
      rw [← HE.out]
      refine Calls.mono HR.out ?_
      rintro e w1 ⟨rfl, hw1⟩
      subst w1
      go_wp2_with fail
      refine Calls.mono HF.out ?_
      rintro e w1 ⟨rfl, hw1⟩
      subst w1
      go_wp2_with fail
      go_ret2
      exact ⟨⟨_, by rw [H0.out]; rfl, fun _ => ⟨m, HQ.out, rfl⟩⟩, HB.out⟩
  · have hEn : (if D.on = true then (if isNm n = true then (0 : Int) else 22) else 23) = E ∧ E ≠ 0 := by
      cases hon : D.on
      · rw [HX.out hon]; simp
      · cases hnm : isNm n
        · rw [HY.out hon hnm]; simp
        · exact absurd ⟨hon, hnm⟩ hq
    rw [hEn.1] at hR
    have HR : Hid _ := hR
    have hb : (E != 0) = true := by simpa using hEn.2
    have HN : Hid _ := hEn.2
    clear hR hF hEn hq HX HY HZ HT HM
    go_enter Tryz.func34, Tryz.ntmps34
    go_wp2_with fail
    rw [← HE.out]
    refine Calls.mono HR.out ?_
    rintro e w1 ⟨rfl, hw1⟩
    subst w1
    go_wp2_with fail
    go_ret2
    exact ⟨⟨none, rfl, fun e => absurd e HN.out⟩, HB.out⟩
end Go.Proofs.YtbdokdhconhifaaGreatDoor

/- A disk's calls: Sync, Cut, Remove, Read. -/
namespace Go.Proofs.YtbdokdhconhifaaGreatDoor
open Go.RowKit Go.Shelf
set_option maxRecDepth 8000

/-- The file of a name, turned. -/
def updF (fs : List FiD) (n : ByteArray) (g : FiD → FiD) : List FiD := match fs[pl fs n]? with
  | some f => fs.set (pl fs n) (g f)
  | none => fs

def durF (f : FiD) : FiD := ⟨f.name, f.bytes, f.bytes.length⟩
def cutF (k : Nat) (f : FiD) : FiD := ⟨f.name, f.bytes.take k, k⟩

/-- A write that is done: what it makes of the files. -/
def DkD.done (D : DkD) (fs : List FiD) : DkD := { D with files := fs, armed := max (D.armed - 1) (-1), writes := D.writes + 1 }

/-- A call that writes: refused; the power gone; done. -/
def DkD.act (D : DkD) (e : Int) (fs : List FiD) : Int × DkD := if e = 0 then (if D.armed = 0 then (23, D.off) else (0, D.done fs)) else (e, D)

theorem act_err {D : DkD} {e : Int} (h : e ≠ 0) (fs : List FiD) : D.act e fs = (e, D) := by unfold DkD.act; rw [if_neg h]
theorem act_off {D : DkD} (h : D.armed = 0) (fs : List FiD) : D.act 0 fs = (23, D.off) := by unfold DkD.act; rw [if_pos rfl, if_pos h]
theorem act_done {D : DkD} (h : D.armed ≠ 0) (fs : List FiD) : D.act 0 fs = (0, D.done fs) := by unfold DkD.act; rw [if_pos rfl, if_neg h]
theorem wr_off {D : DkD} (h : D.armed = 0) : D.wr = D.off := by unfold DkD.wr; rw [if_pos h]
theorem wr_done {D : DkD} (h : D.armed ≠ 0) : D.wr = D.done D.files := by unfold DkD.wr DkD.done; rw [if_neg h]

/-- What a call that writes gives. -/
abbrev ActTo (w : World) (p : Nat) (fv : Value) (ms : List FiM) (r : Int × DkD) (e : Ending) (w' : World) : Prop := e = .returned (.int .i64 r.1) ∧ ∃ fv' ms', DkTo w p fv ms w' r.2 fv' ms'

theorem Below.step {w w1 w2 : World} (h : Below w.heap.size w w1) (g : Below w1.heap.size w1 w2) : Below w.heap.size w w2 := h.trans (g.mono h.size)

set_option maxHeartbeats 1000000 in
theorem read_any {w : World} {p : Nat} {fv : Value} {ms : List FiM} {D : DkD} (h : IsDk w p fv ms D) (ok : DkOk D) (n : ByteArray) :
    Calls Tryz.prog 9 #[.pointer (some ⟨p, 0, none⟩), .string n] w fun e w' => (∃ v, e = .returned (.tuple #[v, .int .i64 (D.errO n)]) ∧ (D.errO n ≠ 0 → v = .slice none 0 0) ∧ (D.errO n = 0 → ∃ f, D.files[pl D.files n]? = some f ∧ Owns w' w.heap.size v f.bytes)) ∧ Below w.heap.size w w' := by
  have HO : Hid _ := open_any h ok n
  have hl := lt_of_block h.row
  have HH : Hid (IsDk w p fv ms D ∧ DkOk D) := ⟨h, ok⟩
  obtain ⟨E, hE⟩ : ∃ E, E = D.errO n := ⟨_, rfl⟩
  rw [← hE] at HO ⊢
  clear h ok
  by_cases he : E = 0
  · have HE : Hid _ := errO_zero (hE.symm.trans he)
    have hb : (E != 0) = false := by simpa using he
    have H0 : Hid _ := he
    clear hE he
    go_enter Tryz.func9, Tryz.ntmps9
    go_wp2_with fail
    refine Calls.mono HO.out ?_
    rintro e w1 ⟨⟨q, rfl, hq⟩, hb1⟩
    obtain ⟨m, hm, rfl⟩ := hq H0.out
    have h1 : IsDk w1 p fv ms D := HH.out.1.later hb1
    obtain ⟨f, hf⟩ : ∃ f, D.files[pl D.files n]? = some f := by
      obtain ⟨hlt, _⟩ := (hasF_iff _ _).1 HE.out.2.2
      exact ⟨_, List.getElem?_eq_getElem hlt⟩
    have hfm : FileAt w1 m f := h1.file _ m f hm hf
    have hsm : f.bytes.length ≤ 1000000000000 := by
      have := len_used (List.mem_of_getElem? hf)
      have := HH.out.2.fits
      have := HH.out.2.r1
      omega
    have HC : Hid _ := copied_any hfm hsm
    have hlm := lt_of_block hfm.row
    have H1 : Hid (Below w.heap.size w w1 ∧ D.files[pl D.files n]? = some f) := ⟨hb1, hf⟩
    clear HO hq hb1 hm h1 hf hfm HE HH hsm
    go_wp2_with fail
    refine Calls.mono HC.out ?_
    rintro e w2 ⟨rfl, ho, hb2⟩
    have H2 : Hid (_ ∧ _) := ⟨ho, hb2⟩
    clear ho hb2 HC
    go_wp2_with fail
    go_ret2
    exact ⟨⟨_, by rw [H0.out]; rfl, fun e => absurd H0.out e, fun _ => ⟨f, H1.out.2, owns_mono H2.out.1 H1.out.1.size⟩⟩, Below.step H1.out.1 H2.out.2⟩
  · have hb : (E != 0) = true := by simpa using he
    have HN : Hid _ := he
    clear he hE
    go_enter Tryz.func9, Tryz.ntmps9
    go_wp2_with fail
    refine Calls.mono HO.out ?_
    rintro e w1 ⟨⟨q, rfl, hq⟩, hb1⟩
    have H1 : Hid _ := hb1
    clear hb1 hq
    go_wp2_with fail
    go_ret2
    exact ⟨⟨_, rfl, fun _ => rfl, fun e => absurd e HN.out⟩, H1.out⟩

/-- What Cut says ahead of its write. -/
def DkD.errC (D : DkD) (n : ByteArray) (k : Int) : Int := if D.errO n = 0 then (if 0 ≤ k ∧ k ≤ ((D.files[pl D.files n]?.map (·.bytes.length)).getD 0 : Nat) then 0 else 1) else D.errO n

end Go.Proofs.YtbdokdhconhifaaGreatDoor
