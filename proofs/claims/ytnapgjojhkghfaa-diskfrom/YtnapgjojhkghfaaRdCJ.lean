/- The document's disk (lagoonref02.Disk) in memory. -/
import Derived.Test.YtnapgjojhkghfaaRdPJ
namespace Go.Proofs.Ytnapgjojhkghfaa
open Go.RowKit
set_option maxRecDepth 8000

abbrev rdQ (fv : Value) (R : RD) : Array Value := #[.int .i64 R.room, fv, .bool R.power, .bool R.armed, .int .i64 R.more, .int .i64 R.done]

/-- The blocks of a document's disk. -/
def rfoot (p : Nat) (fv : Value) (vs : List Value) : List Nat := p :: (fv.ownBlock.toList ++ vs.flatMap (fun v => v.ownBlock.toList))

theorem mem_rfoot_p {p : Nat} {fv : Value} {vs : List Value} : p ∈ rfoot p fv vs := List.mem_cons_self ..
theorem mem_rfoot_fv {p : Nat} {fv : Value} {vs : List Value} {k : Nat} (h : fv.ownBlock = some k) : k ∈ rfoot p fv vs :=
  List.mem_cons_of_mem _ (List.mem_append.2 (.inl (by rw [h]; simp)))
theorem mem_rfoot_v {p : Nat} {fv : Value} {vs : List Value} {u : Value} {k : Nat} (hu : u ∈ vs) (h : u.ownBlock = some k) : k ∈ rfoot p fv vs :=
  List.mem_cons_of_mem _ (List.mem_append.2 (.inr (List.mem_flatMap.2 ⟨u, hu, by rw [h]; simp⟩)))
theorem mem_rfoot {p : Nat} {fv : Value} {vs : List Value} {k : Nat} (h : k ∈ rfoot p fv vs) : k = p ∨ fv.ownBlock = some k ∨ ∃ u ∈ vs, u.ownBlock = some k := by
  rcases List.mem_cons.1 h with e | e
  · exact .inl e
  · rcases List.mem_append.1 e with e | e
    · right; left
      cases hv : fv.ownBlock with
      | none => rw [hv] at e; simp at e
      | some j => rw [hv] at e; simp at e; rw [e]
    · right; right
      obtain ⟨u, hu, hk⟩ := List.mem_flatMap.1 e
      refine ⟨u, hu, ?_⟩
      cases hv : u.ownBlock with
      | none => rw [hv] at hk; simp at hk
      | some j => rw [hv] at hk; simp at hk; rw [hk]

structure IsRd (w : World) (p : Nat) (fv : Value) (vs : List Value) (R : RD) : Prop where
  row : w.heap[p]? = some (.cells (rdQ fv R) 44 (0, 0))
  img : ImgAt w 0 fv R.files vs
  nd : (rfoot p fv vs).Nodup

theorem ImgAt.keptF {w w' : World} {S : Nat → Prop} {B : Nat} {v : Value} {fs : List FiD} {vs : List Value} (h : ImgAt w B v fs vs) (hk : Kept w w' S) (hv : ∀ k, v.ownBlock = some k → ¬ S k) (hs : ∀ u ∈ vs, ∀ k, u.ownBlock = some k → ¬ S k) : ImgAt w' B v fs vs :=
  ⟨h.len, row_kept' h.own hk hv, fun i u f hu hf => (h.bys i u f hu hf).kept hk (hs u (List.mem_of_getElem? hu))⟩

theorem IsRd.kept {w w' : World} {S : Nat → Prop} {p : Nat} {fv : Value} {vs : List Value} {R : RD} (h : IsRd w p fv vs R) (hk : Kept w w' S) (hS : ∀ k ∈ rfoot p fv vs, ¬ S k) : IsRd w' p fv vs R :=
  ⟨hk.heap h.row (hS p mem_rfoot_p), h.img.keptF hk (fun k e => hS k (mem_rfoot_fv e)) (fun _ hu k e => hS k (mem_rfoot_v hu e)), h.nd⟩

theorem IsRd.lt {w : World} {p : Nat} {fv : Value} {vs : List Value} {R : RD} (h : IsRd w p fv vs R) {k : Nat} (hk : k ∈ rfoot p fv vs) : k < w.heap.size := by
  rcases mem_rfoot hk with rfl | e | ⟨u, hu, e⟩
  · exact lt_of_block h.row
  · obtain ⟨_, ⟨e0, _⟩ | ⟨g, cap, cur, e0, _, h3, _⟩⟩ := h.img.own
    · rw [e0] at e; cases e
    · rw [e0] at e
      have : g = k := by simpa [Value.ownBlock] using e
      rw [← this]
      exact lt_of_block h3
  · obtain ⟨i, hi⟩ := List.mem_iff_getElem?.1 hu
    have hil : i < R.files.length := by
      have := (List.getElem?_eq_some_iff.1 hi).1
      rw [h.img.len] at this
      exact this
    exact rows_ltK (h.img.bys i u _ hi (List.getElem?_eq_getElem hil)) e

theorem IsRd.later {w w' : World} {p : Nat} {fv : Value} {vs : List Value} {R : RD} (h : IsRd w p fv vs R) (hb : Below w.heap.size w w') : IsRd w' p fv vs R :=
  h.kept (Below.kept hb) (fun k hk e => by have := h.lt hk; omega)

theorem IsRd.cells {w : World} {p : Nat} {fv : Value} {vs : List Value} {R : RD} (h : IsRd w p fv vs R) : w.cell? ⟨p, 0, none⟩ = some (.int .i64 R.room) ∧ w.cell? ⟨p, 1, none⟩ = some fv ∧ w.cell? ⟨p, 2, none⟩ = some (.bool R.power) ∧ w.cell? ⟨p, 3, none⟩ = some (.bool R.armed) ∧ w.cell? ⟨p, 4, none⟩ = some (.int .i64 R.more) ∧ w.cell? ⟨p, 5, none⟩ = some (.int .i64 R.done) :=
  ⟨cell_of_row w p 0 _ _ _ h.row, cell_of_row w p 1 _ _ _ h.row, cell_of_row w p 2 _ _ _ h.row, cell_of_row w p 3 _ _ _ h.row, cell_of_row w p 4 _ _ _ h.row, cell_of_row w p 5 _ _ _ h.row⟩

/-- A call that turned a document's disk. -/
structure RdTo (w : World) (p : Nat) (fv : Value) (vs : List Value) (w' : World) (R' : RD) (fv' : Value) (vs' : List Value) : Prop where
  is : IsRd w' p fv' vs' R'
  kept : Kept w w' (· ∈ rfoot p fv vs)
  foot : ∀ k ∈ rfoot p fv' vs', k ∈ rfoot p fv vs ∨ w.heap.size ≤ k

theorem RdTo.refl {w : World} {p : Nat} {fv : Value} {vs : List Value} {R : RD} (h : IsRd w p fv vs R) : RdTo w p fv vs w R fv vs := ⟨h, Kept.refl _ _, fun _ hk => .inl hk⟩

theorem RdTo.trans {w w1 w2 : World} {p : Nat} {fv fv1 fv2 : Value} {vs vs1 vs2 : List Value} {R1 R2 : RD} (h : RdTo w p fv vs w1 R1 fv1 vs1) (g : RdTo w1 p fv1 vs1 w2 R2 fv2 vs2) : RdTo w p fv vs w2 R2 fv2 vs2 :=
  ⟨g.is, h.kept.trans' g.kept (fun _ _ e => e) (fun k hk e => by rcases h.foot k e with e | e; exact e; omega), fun k hk => by
    rcases g.foot k hk with e | e
    · exact h.foot k e
    · exact .inr (Nat.le_trans h.kept.size e)⟩

/-- A file of the document's disk: its cells. -/
theorem IsRd.file {w : World} {p : Nat} {fv : Value} {vs : List Value} {R : RD} (h : IsRd w p fv vs R) (i : Nat) (hi : i < R.files.length) : ∃ g c u, fv = .slice (some ⟨g, 0, none⟩) R.files.length c ∧ R.files.length ≤ c ∧ c ≤ maxLen ∧ vs[i]? = some u ∧ w.cell? ⟨g, i * 3, none⟩ = some (.string R.files[i].name) ∧ w.cell? ⟨g, i * 3 + 1, none⟩ = some u ∧ w.cell? ⟨g, i * 3 + 2, none⟩ = some (.int .i64 R.files[i].dur) ∧ Owns w 0 u R.files[i].bytes := by
  obtain ⟨hl, ⟨_, e⟩ | ⟨g, cap, cur, e, _, _, h4, h5, _⟩⟩ := h.img.own
  · rw [e] at hi; simp at hi
  · subst e
    obtain ⟨u, hu, a0, a1, a2, ho⟩ := h.img.cells i hi
    exact ⟨g, cap, u, rfl, h4, h5, hu, a0, a1, a2, ho⟩
end Go.Proofs.Ytnapgjojhkghfaa

/- The document's names: lagoonref02.Name answers for every text. -/
namespace Go.Proofs.Ytnapgjojhkghfaa
open Go.RowKit Go.Shelf
set_option maxRecDepth 8000

set_option linter.unusedSimpArgs false in
set_option maxHeartbeats 1000000 in
theorem refName_any (n : ByteArray) (hs : n.size ≤ 140737488355328) (w : World) : Calls Try.prog 38 #[.string n] w fun e w' => e = .returned (.bool (isNm n)) ∧ w' = w := by
  have hz : n.data.toList.length = n.size := by rw [Array.length_toList]; rfl
  go_enter Try.func38, Try.ntmps38
  go_wp2_with fail
  go_loopw [3] (fun vi wr => ∃ k : Nat, k ≤ n.size ∧ vi = .int .i64 k ∧ Hid ((n.data.toList.take k).all (fun c => chB c.toNat) = true) ∧ wr = w) (fun vi _ => n.size - (intOf vi).toNat)
  case atStart => exact ⟨0, Nat.zero_le _, rfl, by show _ = _; simp, rfl⟩
  case round =>
    obtain ⟨k, hk, rfl, HA, rfl⟩ := hrel
    by_cases hlt : k < n.size
    · have e1 := all_take n.data.toList (fun c => chB c.toNat) k (by omega)
      rw [HA.out, Bool.true_and] at e1
      have HE : Hid _ := e1
      clear e1
      have hnk : n.data.toList[k] = n[k] := by rw [Array.getElem_toList]; rfl
      rw [hnk] at HE
      have hch := chB_iff n[k].toNat
      have HNO : Hid (chB n[k].toNat = false → isNm n = false) := fun e => by
        unfold isNm
        have : n.data.toList.all (fun c => chB c.toNat) = false := by
          rw [List.all_eq_false]
          exact ⟨n[k], by rw [← hnk]; exact List.getElem_mem _, by rw [e]; simp⟩
        rw [this, Bool.and_false]
      have HCH : Hid _ := hch
      clear hch hnk
      go_wp2_with fail
      all_goals (try simp only [bne_iff_ne, bne_eq_false_iff_eq, ne_eq, Bool.not_eq_false', Bool.not_eq_true', Bool.not_eq_true, Bool.not_eq_false, decide_eq_true_eq, decide_eq_false_iff_not] at *)
      all_goals (first | (refine ⟨⟨k + 1, by omega, by go_num, ?_, by trivial⟩, by simp [intOf]; omega⟩; (show _ = _); rw [HE.out]; (refine HCH.out.2 ?_); omega) | (rw [HNO.out (by rw [Bool.eq_false_iff]; intro e; have e := HCH.out.1 e; omega)]; go_ret; exact ⟨rfl, rfl⟩))
    · obtain rfl : k = n.size := by omega
      have HF : Hid (isNm n = (decide (1 ≤ n.size) && decide (n.size ≤ 24))) := by
        show _ = _
        unfold isNm
        have := HA.out
        rw [List.take_of_length_le (by omega)] at this
        rw [this, Bool.and_true]
      by_cases h1 : 1 ≤ n.size
      · have d1 : decide ((n.size : Int) ≥ 1) = true := by simp; omega
        by_cases h2 : n.size ≤ 24
        · have d2 : decide ((n.size : Int) ≤ 24) = true := by simp; omega
          rw [decide_eq_true h1, decide_eq_true h2] at HF
          go_wp2_with fail
          go_ret
          exact ⟨by rw [HF.out]; rfl, rfl⟩
        · have d2 : decide ((n.size : Int) ≤ 24) = false := by simp; omega
          rw [decide_eq_true h1, decide_eq_false h2] at HF
          go_wp2_with fail
          go_ret
          exact ⟨by rw [HF.out]; rfl, rfl⟩
      · have d1 : decide ((n.size : Int) ≥ 1) = false := by simp; omega
        rw [decide_eq_false h1] at HF
        go_wp2_with fail
        go_ret
        exact ⟨by rw [HF.out]; rfl, rfl⟩
end Go.Proofs.Ytnapgjojhkghfaa

/- The document's disk: At, Sum, write, Off, Arm. -/
namespace Go.Proofs.Ytnapgjojhkghfaa
open Go.RowKit Go.Shelf
set_option maxRecDepth 8000

theorem toList_inj {a b : ByteArray} (h : a.toList = b.toList) : a = b := by
  rw [ByteArray.toList_eq, ByteArray.toList_eq] at h
  exact ByteArray.ext (Array.toList_inj.1 h)

set_option maxHeartbeats 1000000 in
theorem refAt_any {w : World} {p : Nat} {fv : Value} {vs : List Value} {R : RD} (h : IsRd w p fv vs R) (hr : Rise R.files) (hfew : R.files.length ≤ 64) (n : ByteArray) :
    Calls Try.prog 39 #[.pointer (some ⟨p, 0, none⟩), .string n] w fun e w' => e = .returned (.int .i64 (atI R.files n)) ∧ w' = w := by
  have c1 := h.cells.2.1
  have hl := lt_of_block h.row
  have HH : Hid _ := h
  have HR : Hid _ := hr
  obtain ⟨N, hN⟩ : ∃ N, N = R.files.length := ⟨_, rfl⟩
  obtain ⟨fa, fc, hfv, hfc, hfm⟩ : ∃ fa fc, fv = .slice fa N fc ∧ N ≤ fc ∧ fc ≤ 9223372036854775807 := by
    rw [hN]
    obtain ⟨_, ⟨e, e0⟩ | ⟨g, cap, cur, e, _, _, h4, h5, _⟩⟩ := h.img.own
    · exact ⟨none, 0, by rw [e, e0], by rw [e0]; omega, by omega⟩
    · unfold maxLen at h5
      exact ⟨_, _, e, h4, by omega⟩
  rw [hfv] at c1
  have HFV : Hid _ := hfv
  rw [← hN] at hfew
  have HN : Hid _ := hN
  clear h hr hN hfv
  go_enter Try.func39, Try.ntmps39
  go_wp2_with fail
  go_loopw [5] (fun vi wr => ∃ k : Nat, k ≤ N ∧ vi = .int .i64 k ∧ Hid (∀ j (hj : j < R.files.length), j < k → R.files[j].name ≠ n) ∧ wr = w) (fun vi _ => N - (intOf vi).toNat)
  case atStart => exact ⟨0, Nat.zero_le _, rfl, fun j hj e => by omega, rfl⟩
  case round =>
    obtain ⟨k, hk, rfl, HA, rfl⟩ := hrel
    by_cases hlt : k < N
    · have hlt1 : k < R.files.length := by rw [← HN.out]; exact hlt
      obtain ⟨g, c, u, e0, _, _, _, a0, _, _, _⟩ := HH.out.file k hlt1
      rw [HFV.out] at e0
      obtain ⟨rfl, _, rfl⟩ := Value.slice.inj e0
      by_cases hn : R.files[k].name = n
      · have hb : (R.files[k].name.toList == n.toList) = true := by rw [hn]; simp
        have HF : Hid (atI R.files n = (k : Int)) := by
          show _ = _
          unfold atI
          rw [(hasF_mem HR.out n).2 ⟨_, List.getElem_mem hlt1, hn⟩, if_pos rfl, at_pl HR.out hlt1 hn]
        generalize R.files[k].name = nm at *
        clear e0
        go_wp2_with fail
        go_ret
        exact ⟨by rw [HF.out]; rfl, rfl⟩
      · have hb : (R.files[k].name.toList == n.toList) = false := by
          rw [beq_eq_false_iff_ne]
          exact fun e => hn (toList_inj e)
        have hb2 : ¬ R.files[k].name.toList = n.toList := fun e => hn (toList_inj e)
        have HA2 : Hid (∀ j (hj : j < R.files.length), j < k + 1 → R.files[j].name ≠ n) := fun j hj e => by
          by_cases hjk : j = k
          · subst hjk; exact hn
          · exact HA.out j hj (by omega)
        generalize R.files[k].name = nm at *
        clear e0
        go_wp2_with fail
        go_roundw
        case rel => exact ⟨k + 1, by omega, by go_num, HA2, by trivial⟩
        case measure => simp [intOf]; omega
    · obtain rfl : k = N := by omega
      have HF : Hid (atI R.files n = -1) := by
        show _ = _
        unfold atI
        have : hasF R.files n = false := by
          rw [Bool.eq_false_iff]
          intro e
          obtain ⟨f, hf, e'⟩ := (hasF_mem HR.out n).1 e
          obtain ⟨j, hj, rfl⟩ := List.getElem_of_mem hf
          exact HA.out j hj (by rw [HN.out]; exact hj) e'
        rw [this]
        rfl
      go_wp2_with fail
      go_ret
      exact ⟨by rw [HF.out]; rfl, rfl⟩

/-- A call that turned the numbers of the disk's own row alone. -/
theorem IsRd.fields {w w' : World} {p : Nat} {fv : Value} {vs : List Value} {R R' : RD} (h : IsRd w p fv vs R) (hk : Kept w w' (· = p)) (hrow : w'.heap[p]? = some (.cells (rdQ fv R') 44 (0, 0))) (hf : R'.files = R.files) : RdTo w p fv vs w' R' fv vs := by
  have hnp := (List.nodup_cons.1 h.nd).1
  refine ⟨⟨hrow, ?_, h.nd⟩, hk.mono (fun k _ e => by rw [e]; exact mem_rfoot_p), fun k hk => .inl hk⟩
  rw [hf]
  exact h.img.keptF hk (fun k e e' => hnp (by rw [← e']; exact (List.mem_cons.1 (mem_rfoot_fv (p := p) (vs := vs) e)).resolve_left (fun e'' => hnp (List.mem_append.2 (.inl (by rw [e, e'']; simp)))))) (fun u hu k e e' => hnp (by rw [← e']; exact List.mem_append.2 (.inr (List.mem_flatMap.2 ⟨u, hu, by rw [e]; simp⟩))))

theorem refOff_any {w : World} {p : Nat} {fv : Value} {vs : List Value} {R : RD} (h : IsRd w p fv vs R) : Calls Try.prog 28 #[.pointer (some ⟨p, 0, none⟩)] w fun e w' => e = .returned (.tuple #[]) ∧ RdTo w p fv vs w' R.off fv vs := by
  obtain ⟨c0, c1, c2, c3, c4, c5⟩ := h.cells
  have hl := lt_of_block h.row
  have f2 : w.frozen? ⟨p, 2, none⟩ = false := frozen_of_row w p 2 _ _ h.row
  have f3 : w.frozen? ⟨p, 3, none⟩ = false := frozen_of_row w p 3 _ _ h.row
  have HR : Hid (RdTo w p fv vs ((w.setCell ⟨p, 2, none⟩ (.bool false)).setCell ⟨p, 3, none⟩ (.bool false)) R.off fv vs) := h.fields (Kept.setCell (Kept.setCell (Kept.refl _ (fun k => k = p)) ⟨p, 2, none⟩ _ (fun _ => rfl)) ⟨p, 3, none⟩ _ (fun _ => rfl)) (heap_setK _ (heap_setK _ h.row)) rfl
  clear h
  go_enter Try.func28, Try.ntmps28
  go_wp2_with fail
  go_end0
  exact ⟨rfl, HR.out⟩
end Go.Proofs.Ytnapgjojhkghfaa
