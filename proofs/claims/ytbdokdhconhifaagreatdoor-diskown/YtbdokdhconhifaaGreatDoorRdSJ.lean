/- The document's disk: Rename. -/
import Derived.Test.YtbdokdhconhifaaGreatDoorRdMJ
namespace Go.Proofs.YtbdokdhconhifaaGreatDoor
open Go.RowKit Go.Shelf
set_option maxRecDepth 8000

def RD.errR (R : RD) (a b : ByteArray) : Int := if R.power then (if isNm a && isNm b then (if hasF R.files a then 0 else 20) else 22) else 23

theorem nd_one {w : World} {p : Nat} {fv : Value} {vs : List Value} {R : RD} (h : IsRd w p fv vs R) (u' : Value) (hu : ∀ k, u'.ownBlock = some k → w.heap.size ≤ k) : (rfoot p fv (u' :: vs)).Nodup := by
  have h0 := h.nd
  cases e : u'.ownBlock with
  | none =>
    unfold rfoot at h0 ⊢
    rw [List.flatMap_cons, e]
    simpa using h0
  | some k =>
    have hk := hu k e
    have hk2 : k ∉ rfoot p fv vs := fun hm => by have := h.lt hm; omega
    have hp : (rfoot p fv (u' :: vs)).Perm (k :: rfoot p fv vs) := by
      unfold rfoot
      rw [List.flatMap_cons, e]
      exact List.Perm.trans (List.Perm.cons p List.perm_middle) (List.Perm.swap k p _)
    exact hp.nodup_iff.2 (List.nodup_cons.2 ⟨hk2, h0⟩)

/-- A list of files that has some of a disk's, and one more at most, is set. -/
theorem IsRd.setZ {w w4 w5 : World} {p : Nat} {fv v5 : Value} {vs : List Value} {R : RD} (h : IsRd w p fv vs R) (hb : Below w.heap.size w w4) (u' : Value) (hu : ∀ k, u'.ownBlock = some k → w.heap.size ≤ k ∧ k < w4.heap.size) {z : List (FiD × Value)} (ho : OutZ w4 w5 v5 z) (hown : ∀ a ∈ z, Owns w4 0 a.2 a.1.bytes) {l : List Value} (hp : (z.map Prod.snd).Perm l) (hs : l.Sublist (u' :: vs)) :
    RdTo w p fv vs (w5.setCell ⟨p, 1, none⟩ v5) { R with files := z.map Prod.fst } v5 (z.map Prod.snd) := by
  have hmem : ∀ u ∈ z.map Prod.snd, ∀ k, u.ownBlock = some k → k ∈ rfoot p fv vs ∨ (w.heap.size ≤ k ∧ k < w4.heap.size) := fun u hm k e => by
    rcases List.mem_cons.1 (hs.subset (hp.subset hm)) with e1 | e1
    · rw [e1] at e
      exact .inr (hu k e)
    · exact .inl (mem_rfoot_v e1 e)
  have hnew : ∀ k, v5.ownBlock = some k → w4.heap.size ≤ k := fun k e => ho.new e
  have hsz := hb.size
  refine h.setF (hb.trans (ho.bel.mono hsz)) (ho.img hown) (nd_new (fv := fv) ?_ (fun k e hm => ?_)) (fun k e => by have := hnew k e; omega) (fun u hm k e => by
    rcases hmem u hm k e with e1 | e1
    · exact .inl e1
    · exact .inr e1.1)
  · exact nd_perm hp.symm (nd_sub hs (nd_one h u' (fun k e => (hu k e).1)))
  · have h1 := hnew k e
    rcases mem_rfoot hm with e1 | e1 | ⟨u, hm2, e1⟩
    · have := lt_of_block h.row; omega
    · have := h.lt (mem_rfoot_fv (p := p) (vs := vs) e1); omega
    · rcases hmem u hm2 k e1 with e2 | e2
      · have := h.lt e2; omega
      · omega

theorem insZ_fst (z : List (FiD × Value)) (f : FiD) (u : Value) : (insZ z (pl (z.map Prod.fst) f.name) (f, u)).map Prod.fst = insF (z.map Prod.fst) f := by
  unfold insZ insF
  simp

theorem insZ_perm (z : List (FiD × Value)) (P : Nat) (a : FiD × Value) : ((insZ z P a).map Prod.snd).Perm (a.2 :: z.map Prod.snd) := by
  unfold insZ
  rw [List.map_append, List.map_cons]
  refine List.perm_middle.trans ?_
  rw [← List.map_append, List.take_append_drop]

theorem insZ_mem {z : List (FiD × Value)} {P : Nat} {a b : FiD × Value} (h : b ∈ insZ z P a) : b = a ∨ b ∈ z := by
  unfold insZ at h
  rcases List.mem_append.1 h with h | h
  · exact .inr (List.mem_of_mem_take h)
  · rcases List.mem_cons.1 h with h | h
    · exact .inl h
    · exact .inr (List.mem_of_mem_drop h)

theorem zip_self (z : List (FiD × Value)) : (z.map Prod.fst).zip (z.map Prod.snd) = z := by
  induction z with
  | nil => rfl
  | cons a l ih => simp [ih]

/-- A file of the disk, and those of other names. -/
theorem ren_sub {z : List (FiD × Value)} {i : Nat} (hi : i < z.length) {Q Q2 : FiD × Value → Bool} (hq : Q z[i] = false) : (z[i].2 :: ((z.filter Q).filter Q2).map Prod.snd).Perm (z[i].2 :: ((z.filter Q).filter Q2).map Prod.snd) ∧ ∃ l, (z[i].2 :: ((z.filter Q).filter Q2).map Prod.snd).Perm l ∧ l.Sublist (z.map Prod.snd) := by
  refine ⟨List.Perm.refl _, ?_⟩
  have e : z = z.take i ++ z[i] :: z.drop (i + 1) := by rw [← List.drop_eq_getElem_cons hi, List.take_append_drop]
  have hf : z.filter Q = (z.take i).filter Q ++ (z.drop (i + 1)).filter Q := by
    conv => lhs; rw [e]
    rw [List.filter_append, List.filter_cons_of_neg (by simp [hq])]
  refine ⟨(((z.take i).filter Q).filter Q2).map Prod.snd ++ z[i].2 :: (((z.drop (i + 1)).filter Q).filter Q2).map Prod.snd, ?_, ?_⟩
  · rw [hf, List.filter_append, List.map_append]
    exact List.perm_middle.symm
  · conv => rhs; rw [e]
    rw [List.map_append, List.map_cons]
    exact List.Sublist.append (((List.filter_sublist).trans List.filter_sublist).map _) (List.Sublist.cons_cons _ (((List.filter_sublist).trans List.filter_sublist).map _))

theorem OutZ.slice {w wr : World} {v : Value} {z : List (FiD × Value)} (h : OutZ w wr v z) : ∃ x l y, v = .slice x l y := by
  obtain ⟨x, y, e, _⟩ := row_shapeR h.own
  exact ⟨x, _, y, e⟩

theorem Owns.later {w w' : World} {B : Nat} {v : Value} {xs : List Int} (h : Owns w B v xs) (hb : Below w.heap.size w w') : Owns w' B v xs :=
  h.kept (Below.kept hb) (fun k e e' => by have := rows_ltK h e; omega)

theorem rise_filter {fs : List FiD} (h : Rise fs) (Q : FiD → Bool) : Rise (fs.filter Q) := List.Pairwise.sublist List.filter_sublist h

theorem hasF_filter {fs : List FiD} (h : Rise fs) (n : ByteArray) : hasF (fs.filter fun f => decide (f.name ≠ n)) n = false := by
  rw [Bool.eq_false_iff]
  intro e
  obtain ⟨f, hf, e'⟩ := (hasF_mem (rise_filter h _) n).1 e
  have := (List.mem_filter.1 hf).2
  simp [e'] at this

theorem RD.errO_nz {R : RD} {a b : ByteArray} (hb : R.power = true → isNm b = true) : R.errR a b = R.errO a := by
  unfold RD.errR RD.errO
  cases hp : R.power
  · rfl
  · rw [if_pos rfl, if_pos rfl, hb hp, Bool.and_true]

end Go.Proofs.YtbdokdhconhifaaGreatDoor