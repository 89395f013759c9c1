/- Two boards of the program, two of the document, a Bag of what was told: what holds of them as WatchCalls goes on. -/
import Derived.Test.YtkcapiblicfboaaGreatDoorWbDJ
import Derived.Test.YtkcapiblicfboaaGreatDoorWbCJ
import Derived.Test.YtkcapiblicfboaaGreatDoorBgYJ
namespace Go.Proofs.YtkcapiblicfboaaGreatDoor
open Go.RowKit Go.Shelf
set_option maxRecDepth 8000
set_option linter.unusedSimpArgs false

/-- A function with one value changed. -/
def updW {A : Type} (f : Nat → A) (p : Nat) (x : A) (q : Nat) : A := if q = p then x else f q
theorem updW_at {A : Type} (f : Nat → A) (p : Nat) (x : A) : updW f p x p = x := by simp [updW]
theorem updW_ne {A : Type} (f : Nat → A) {p q : Nat} (x : A) (h : q ≠ p) : updW f p x q = f q := by simp [updW, h]

/-- Where the boards lie. -/
structure WcB where
  b : Nat → Nat
  m : Nat → Nat
  v : Nat → Value
  c : Nat → Nat
  r : Nat → Value
def WcB.fa (D : WcB) (p k : Nat) : Prop := Ft (D.b p) (D.m p) (D.v p) k
def WcB.fr (D : WcB) (p k : Nat) : Prop := FtR (D.c p) (D.r p) k
def WcB.setV (D : WcB) (p : Nat) (v' : Value) : WcB := { D with v := updW D.v p v' }
def WcB.setR (D : WcB) (p : Nat) (r' : Value) : WcB := { D with r := updW D.r p r' }

theorem Rb.notBox {w : World} {b : Nat} {v : Value} {l : List WaT} (h : Rb w b v l) {k : Nat} {cs : Array Value} {T : TypeId} (hk : w.heap[k]? = some (.cells cs T (0, 0))) (h1 : T ≠ 82) (h2 : T ≠ 57) : ¬ FtR b v k := fun hf => by
  rcases hf with rfl | hf
  · have := h.hb; rw [hk] at this; simp at this; exact h1 this.2
  · obtain ⟨cs', e⟩ := rowT h.ho hf; rw [hk] at e; simp at e; exact h2 e.2

structure Wk (w wr : World) (xa xb g : Nat) (D : WcB) (lA lR : Nat → List WaT) (wv fv : Value) (bs cs : List Value) (ps qs : List Rw) : Prop where
  a : ∀ p, p < 2 → Bo wr (D.b p) (D.m p) (D.v p) (lA p) (lA p)
  r : ∀ p, p < 2 → Rb wr (D.c p) (D.r p) (lR p)
  aa : ∀ p q, p < 2 → q < 2 → p ≠ q → ∀ k, D.fa p k → ¬ D.fa q k
  rr : ∀ p q, p < 2 → q < 2 → p ≠ q → ∀ k, D.fr p k → ¬ D.fr q k
  ar : ∀ p q, p < 2 → q < 2 → ∀ k, D.fa p k → ¬ D.fr q k
  lo : ∀ p, p < 2 → ∀ k, D.fa p k ∨ D.fr p k → w.heap.size ≤ k
  wA : ∀ p, p < 2 → Wats (lA p)
  wR : ∀ p, p < 2 → Wats (lR p)
  ba : wr.heap[xa]? = some (.cells #[.pointer (some ⟨D.b 0, 0, none⟩), .pointer (some ⟨D.b 1, 0, none⟩)] 27 (0, 0))
  bb : wr.heap[xb]? = some (.cells #[.pointer (some ⟨D.c 0, 0, none⟩), .pointer (some ⟨D.c 1, 0, none⟩)] 30 (0, 0))
  bag : BagWF wr g wv fv bs cs w.heap.size
  glo : w.heap.size ≤ g
  rp : ∃ Xp, RowsR wr 57 3 ps Xp
  rq : ∃ Xq, RowsR wr 77 5 qs Xq
  ap : ApartR ps
  aq : ApartR qs
  bp : ∀ x ∈ ps, x.n ≤ 1100000000
  bq : ∀ x ∈ qs, x.n ≤ 1100000000
  off : ∀ k, BlkR ps k → w.heap.size ≤ k ∧ ∀ p, p < 2 → ¬ D.fa p k ∧ ¬ D.fr p k
  offq : ∀ k, BlkR qs k → w.heap.size ≤ k
  bel : Below w.heap.size w wr

theorem bel_kept {w wr w' : World} {S : Nat → Prop} (h : Below w.heap.size w wr) (hk : Kept wr w' S) (hlo : ∀ k, S k → w.heap.size ≤ k) : Below w.heap.size w w' :=
  ⟨hk.os.trans h.os, hk.tape.trans h.tape, hk.output.trans h.output, Nat.le_trans h.size hk.size, fun k hk' => by
    rw [hk.block k (Nat.lt_of_lt_of_le hk' h.size) (fun hv => by have := hlo k hv; omega), h.block k hk']⟩

theorem rows_kept {w w' : World} {S : Nat → Prop} {T : TypeId} {z : Nat} {rs : List Rw} {Xs : Nat → List Value} (h : RowsR w T z rs Xs) (hk : Kept w w' S) (hn : ∀ k, BlkR rs k → ¬ S k) : RowsR w' T z rs Xs :=
  fun j hj => rowK (h j hj) hk (fun g hg => hn g ⟨j, hj, hg⟩)
theorem blkR_type {w : World} {T : TypeId} {z : Nat} {rs : List Rw} {Xs : Nat → List Value} (h : RowsR w T z rs Xs) {k : Nat} (hk : BlkR rs k) : ∃ cs, w.heap[k]? = some (.cells cs T (0, 0)) := by
  obtain ⟨j, hj, e⟩ := hk
  exact rowT (h j hj) e
theorem rows_lt {w : World} {T : TypeId} {z : Nat} {rs : List Rw} {Xs : Nat → List Value} (h : RowsR w T z rs Xs) {k : Nat} (hk : BlkR rs k) : k < w.heap.size := by
  obtain ⟨cs, e⟩ := blkR_type h hk
  exact lt_of_block e

variable {w wr w' : World} {xa xb g : Nat} {D : WcB} {lA lR : Nat → List WaT} {wv fv : Value} {bs cs : List Value} {ps qs : List Rw}

/-- What a board's call leaves beside the boards. -/
theorem Wk.rest {S : Nat → Prop} (h : Wk w wr xa xb g D lA lR wv fv bs cs ps qs) (hk : Kept wr w' S) (h1 : ∀ k cs T, wr.heap[k]? = some (.cells cs T (0, 0)) → T ≠ 80 → T ≠ 57 → T ≠ 82 → ¬ S k) (h2 : ∀ k, BlkR ps k → ¬ S k) :
    w'.heap[xa]? = some (.cells #[.pointer (some ⟨D.b 0, 0, none⟩), .pointer (some ⟨D.b 1, 0, none⟩)] 27 (0, 0)) ∧ w'.heap[xb]? = some (.cells #[.pointer (some ⟨D.c 0, 0, none⟩), .pointer (some ⟨D.c 1, 0, none⟩)] 30 (0, 0)) ∧ BagWF w' g wv fv bs cs w.heap.size ∧ (∃ Xp, RowsR w' 57 3 ps Xp) ∧ (∃ Xq, RowsR w' 77 5 qs Xq) := by
  obtain ⟨Xp, hrp⟩ := h.rp
  obtain ⟨Xq, hrq⟩ := h.rq
  refine ⟨hk.heap h.ba (h1 _ _ _ h.ba (by decide) (by decide) (by decide)), hk.heap h.bb (h1 _ _ _ h.bb (by decide) (by decide) (by decide)), ⟨hk.heap h.bag.row (h1 _ _ _ h.bag.row (by decide) (by decide) (by decide)), ?_, ?_⟩, ⟨Xp, rows_kept hrp hk h2⟩, ⟨Xq, rows_kept hrq hk fun k hb => ?_⟩⟩
  · refine rowK h.bag.wa hk (fun k e => ?_)
    obtain ⟨c', e'⟩ := rowT h.bag.wa e
    exact h1 _ _ _ e' (by decide) (by decide) (by decide)
  · refine rowK h.bag.fi hk (fun k e => ?_)
    obtain ⟨c', e'⟩ := rowT h.bag.fi e
    exact h1 _ _ _ e' (by decide) (by decide) (by decide)
  · obtain ⟨c', e'⟩ := blkR_type hrq hb
    exact h1 _ _ _ e' (by decide) (by decide) (by decide)

theorem Wk.below (h : Wk w wr xa xb g D lA lR wv fv bs cs ps qs) (hB : Below wr.heap.size wr w') : Wk w w' xa xb g D lA lR wv fv bs cs ps qs := by
  obtain ⟨Xp, hrp⟩ := h.rp
  obtain ⟨r1, r2, r3, r4, r5⟩ := h.rest (Below.kept hB) (fun k c T e _ _ _ => by have := lt_of_block e; omega) (fun k hb => by have := rows_lt hrp hb; omega)
  exact ⟨fun p hp => (h.a p hp).below hB, fun p hp => (h.r p hp).below hB, h.aa, h.rr, h.ar, h.lo, h.wA, h.wR, r1, r2, r3, h.glo, r4, r5, h.ap, h.aq, h.bp, h.bq, h.off, h.offq, h.bel.trans (hB.mono h.bel.size)⟩

theorem fa_setV (D : WcB) (p : Nat) (v' : Value) {q : Nat} (h : q ≠ p) (k : Nat) : (D.setV p v').fa q k ↔ D.fa q k := by simp [WcB.setV, WcB.fa, updW, h]
theorem fa_setV_at (D : WcB) (p : Nat) (v' : Value) (k : Nat) : (D.setV p v').fa p k ↔ Ft (D.b p) (D.m p) v' k := by simp [WcB.setV, WcB.fa, updW]
theorem fr_setR (D : WcB) (p : Nat) (v' : Value) {q : Nat} (h : q ≠ p) (k : Nat) : (D.setR p v').fr q k ↔ D.fr q k := by simp [WcB.setR, WcB.fr, updW, h]
theorem fr_setR_at (D : WcB) (p : Nat) (v' : Value) (k : Nat) : (D.setR p v').fr p k ↔ FtR (D.c p) v' k := by simp [WcB.setR, WcB.fr, updW]

/-- A call of a board of the program. -/
theorem Wk.stepA (h : Wk w wr xa xb g D lA lR wv fv bs cs ps qs) {p : Nat} (hp : p < 2) {v' : Value} {l' : List WaT} (hb : Bo w' (D.b p) (D.m p) v' l' l') (hk : Kept wr w' (Ft (D.b p) (D.m p) (D.v p))) (hn : NewRow wr (D.v p) v') (hw : Wats l') :
    Wk w w' xa xb g (D.setV p v') (updW lA p l') lR wv fv bs cs ps qs := by
  obtain ⟨Xp, hrp⟩ := h.rp
  obtain ⟨r1, r2, r3, r4, r5⟩ := h.rest hk (fun k c T e t1 t2 _ => (h.a p hp).notBox e t1 t2) (fun k hb' hf => ((h.off k hb').2 p hp).1 hf)
  have new : ∀ k, Ft (D.b p) (D.m p) v' k → D.fa p k ∨ wr.heap.size ≤ k := by
    rintro k (e | e | e)
    · exact .inl (.inl e)
    · exact .inl (.inr (.inl e))
    · rcases hn with hn | ⟨k2, e2, hk2⟩
      · exact .inl (.inr (.inr (hn ▸ e)))
      · rw [e2] at e; cases e; exact .inr hk2
  have hsz := h.bel.size
  refine ⟨fun q hq => ?_, fun q hq => (h.r q hq).kept hk (fun k hf hs => h.ar p q hp hq k hs hf), fun q q' hq hq' hne k => ?_, h.rr, fun q q' hq hq' k hf hr => ?_, fun q hq k hf => ?_, fun q hq => ?_, h.wR, r1, r2, r3, h.glo, r4, r5, h.ap, h.aq, h.bp, h.bq, fun k hb' => ⟨(h.off k hb').1, fun q hq => ⟨fun hf => ?_, ((h.off k hb').2 q hq).2⟩⟩, h.offq, bel_kept h.bel hk (fun k hf => h.lo p hp k (.inl hf))⟩
  · by_cases e : q = p
    · subst e
      simp only [WcB.setV, updW_at]
      exact hb
    · simp only [WcB.setV, updW_ne _ _ e]
      exact (h.a q hq).kept hk (fun k hf hs => h.aa q p hq hp e k hf hs)
  · by_cases e : q = p
    · subst e
      rw [fa_setV_at, fa_setV D _ v' (fun e => hne e.symm)]
      intro hf hf2
      rcases new k hf with h3 | h3
      · exact h.aa _ q' hp hq' hne k h3 hf2
      · have := (h.a q' hq').lt hf2; omega
    · rw [fa_setV D p v' e]
      by_cases e' : q' = p
      · subst e'
        rw [fa_setV_at]
        intro hf hf2
        rcases new k hf2 with h3 | h3
        · exact h.aa q _ hq hq' hne k hf h3
        · have := (h.a q hq).lt hf; omega
      · rw [fa_setV D p v' e']
        exact h.aa q q' hq hq' hne k
  · by_cases e : q = p
    · subst e
      rw [fa_setV_at] at hf
      rcases new k hf with h3 | h3
      · exact h.ar _ q' hp hq' k h3 hr
      · have := (h.r q' hq').lt hr; omega
    · rw [fa_setV D p v' e] at hf
      exact h.ar q q' hq hq' k hf hr
  · by_cases e : q = p
    · subst e
      rw [fa_setV_at] at hf
      rcases hf with hf | hf
      · rcases new k hf with h3 | h3
        · exact h.lo _ hp k (.inl h3)
        · omega
      · exact h.lo _ hp k (.inr hf)
    · rw [fa_setV D p v' e] at hf
      exact h.lo q hq k hf
  · by_cases e : q = p
    · subst e; rw [updW_at]; exact hw
    · rw [updW_ne _ _ e]; exact h.wA q hq
  · by_cases e : q = p
    · subst e
      rw [fa_setV_at] at hf
      rcases new k hf with h3 | h3
      · exact ((h.off k hb').2 _ hp).1 h3
      · have := rows_lt hrp hb'; omega
    · rw [fa_setV D p v' e] at hf
      exact ((h.off k hb').2 q hq).1 hf

/-- A call of a board of the document. -/
theorem Wk.stepR (h : Wk w wr xa xb g D lA lR wv fv bs cs ps qs) {p : Nat} (hp : p < 2) {v' : Value} {l' : List WaT} (hb : Rb w' (D.c p) v' l') (hk : Kept wr w' (FtR (D.c p) (D.r p))) (hn : ∀ k, v'.ownBlock = some k → (D.r p).ownBlock = some k ∨ wr.heap.size ≤ k) (hw : Wats l') :
    Wk w w' xa xb g (D.setR p v') lA (updW lR p l') wv fv bs cs ps qs := by
  obtain ⟨Xp, hrp⟩ := h.rp
  obtain ⟨r1, r2, r3, r4, r5⟩ := h.rest hk (fun k c T e _ t2 t3 => (h.r p hp).notBox e t3 t2) (fun k hb' hf => ((h.off k hb').2 p hp).2 hf)
  have new : ∀ k, FtR (D.c p) v' k → D.fr p k ∨ wr.heap.size ≤ k := by
    rintro k (e | e)
    · exact .inl (.inl e)
    · exact (hn k e).elim (fun e => .inl (.inr e)) .inr
  have hsz := h.bel.size
  refine ⟨fun q hq => (h.a q hq).kept hk (fun k hf hs => h.ar q p hq hp k hf hs), fun q hq => ?_, h.aa, fun q q' hq hq' hne k => ?_, fun q q' hq hq' k hf hr => ?_, fun q hq k hf => ?_, h.wA, fun q hq => ?_, r1, r2, r3, h.glo, r4, r5, h.ap, h.aq, h.bp, h.bq, fun k hb' => ⟨(h.off k hb').1, fun q hq => ⟨((h.off k hb').2 q hq).1, fun hf => ?_⟩⟩, h.offq, bel_kept h.bel hk (fun k hf => h.lo p hp k (.inr hf))⟩
  · by_cases e : q = p
    · subst e
      simp only [WcB.setR, updW_at]
      exact hb
    · simp only [WcB.setR, updW_ne _ _ e]
      exact (h.r q hq).kept hk (fun k hf hs => h.rr q p hq hp e k hf hs)
  · by_cases e : q = p
    · subst e
      rw [fr_setR_at, fr_setR D _ v' (fun e => hne e.symm)]
      intro hf hf2
      rcases new k hf with h3 | h3
      · exact h.rr _ q' hp hq' hne k h3 hf2
      · have := (h.r q' hq').lt hf2; omega
    · rw [fr_setR D p v' e]
      by_cases e' : q' = p
      · subst e'
        rw [fr_setR_at]
        intro hf hf2
        rcases new k hf2 with h3 | h3
        · exact h.rr q _ hq hq' hne k hf h3
        · have := (h.r q hq).lt hf; omega
      · rw [fr_setR D p v' e']
        exact h.rr q q' hq hq' hne k
  · by_cases e : q' = p
    · subst e
      rw [fr_setR_at] at hr
      rcases new k hr with h3 | h3
      · exact h.ar q _ hq hp k hf h3
      · have := (h.a q hq).lt hf; omega
    · rw [fr_setR D p v' e] at hr
      exact h.ar q q' hq hq' k hf hr
  · by_cases e : q = p
    · subst e
      rw [fr_setR_at] at hf
      rcases hf with hf | hf
      · exact h.lo _ hp k (.inl hf)
      · rcases new k hf with h3 | h3
        · exact h.lo _ hp k (.inr h3)
        · omega
    · rw [fr_setR D p v' e] at hf
      exact h.lo q hq k hf
  · by_cases e : q = p
    · subst e; rw [updW_at]; exact hw
    · rw [updW_ne _ _ e]; exact h.wR q hq
  · by_cases e : q = p
    · subst e
      rw [fr_setR_at] at hf
      rcases new k hf with h3 | h3
      · exact ((h.off k hb').2 _ hp).2 h3
      · have := rows_lt hrp hb'; omega
    · rw [fr_setR D p v' e] at hf
      exact ((h.off k hb').2 q hq).2 hf

/-- One more list among those that lie apart. -/
theorem apartR_snoc {rs : List Rw} {x : Rw} (h : ApartR rs) (hx : ∀ k, x.v.ownBlock = some k → ¬ BlkR rs k) : ApartR (rs ++ [x]) := by
  intro i j hi hj hne k h1 h2
  rw [List.length_append, List.length_singleton] at hi hj
  rw [List.getElem_append] at h1 h2
  split at h1
  · rename_i hi2
    split at h2
    · rename_i hj2
      exact h i j hi2 hj2 hne k h1 h2
    · simp only [List.getElem_singleton] at h2
      exact hx k h2 ⟨i, hi2, h1⟩
  · simp only [List.getElem_singleton] at h1
    split at h2
    · rename_i hj2
      exact hx k h1 ⟨j, hj2, h2⟩
    · omega
theorem rows_snoc {w : World} {T : TypeId} {z B : Nat} {rs : List Rw} {Xs : Nat → List Value} {u : Value} {n : Nat} {xs : List Value} (h : RowsR w T z rs Xs) (hu : w.ownsRow B T z u n xs) : ∃ Ys, RowsR w T z (rs ++ [⟨u, n⟩]) Ys := by
  refine ⟨fun j => if j < rs.length then Xs j else xs, fun j hj => ?_⟩
  rw [List.getElem_append]
  split
  · rename_i hj2
    simp only [if_pos hj2]; exact h j hj2
  · rename_i hj2
    simp only [if_neg hj2, List.getElem_singleton]
    exact row_lower hu (Nat.zero_le _)
theorem blkR_snoc {rs : List Rw} {x : Rw} {k : Nat} (h : BlkR (rs ++ [x]) k) : BlkR rs k ∨ x.v.ownBlock = some k := by
  obtain ⟨j, hj, e⟩ := h
  rw [List.getElem_append] at e
  split at e
  · rename_i hj2; exact .inl ⟨j, hj2, e⟩
  · simp only [List.getElem_singleton] at e; exact .inr e
theorem blkR_more {rs : List Rw} {x : Rw} {k : Nat} (h : BlkR rs k) : BlkR (rs ++ [x]) k := by
  obtain ⟨j, hj, e⟩ := h
  exact ⟨j, by simp; omega, by rw [List.getElem_append_left hj]; exact e⟩
theorem rows_less {w : World} {T : TypeId} {z : Nat} {rs : List Rw} {x : Rw} {Xs : Nat → List Value} (h : RowsR w T z (rs ++ [x]) Xs) : RowsR w T z rs Xs := fun j hj => by
  have := h j (by simp; omega)
  rw [List.getElem_append_left hj] at this
  exact this
theorem apartR_less {rs : List Rw} {x : Rw} (h : ApartR (rs ++ [x])) : ApartR rs := fun i j hi hj hne k h1 => by
  have := h i j (by simp; omega) (by simp; omega) hne k (by rw [List.getElem_append_left hi]; exact h1)
  rw [List.getElem_append_left hj] at this
  exact this

theorem Wk.rowW (h : Wk w wr xa xb g D lA lR wv fv bs cs ps qs) {B n : Nat} {u : Value} {xs : List Value} (hu : wr.ownsRow B 57 3 u n xs) (hB : w.heap.size ≤ B) (hn : n ≤ 1100000000) (hoff : ∀ k, u.ownBlock = some k → (∀ p, p < 2 → ¬ D.fa p k ∧ ¬ D.fr p k) ∧ ¬ BlkR ps k) :
    Wk w wr xa xb g D lA lR wv fv bs cs (ps ++ [⟨u, n⟩]) qs := by
  obtain ⟨Xp, hrp⟩ := h.rp
  refine ⟨h.a, h.r, h.aa, h.rr, h.ar, h.lo, h.wA, h.wR, h.ba, h.bb, h.bag, h.glo, rows_snoc hrp hu, h.rq, apartR_snoc h.ap (fun k e => (hoff k e).2), h.aq, fun x hx => ?_, h.bq, fun k hb => ?_, h.offq, h.bel⟩
  · rcases List.mem_append.1 hx with hx | hx
    · exact h.bp x hx
    · rw [List.mem_singleton] at hx; subst hx; exact hn
  · rcases blkR_snoc hb with hb | hb
    · exact h.off k hb
    · exact ⟨Nat.le_trans hB (hu.lt k hb).1, (hoff k hb).1⟩
theorem Wk.rowF (h : Wk w wr xa xb g D lA lR wv fv bs cs ps qs) {B n : Nat} {u : Value} {xs : List Value} (hu : wr.ownsRow B 77 5 u n xs) (hB : w.heap.size ≤ B) (hn : n ≤ 1100000000) (hoff : ∀ k, u.ownBlock = some k → ¬ BlkR qs k) :
    Wk w wr xa xb g D lA lR wv fv bs cs ps (qs ++ [⟨u, n⟩]) := by
  obtain ⟨Xq, hrq⟩ := h.rq
  refine ⟨h.a, h.r, h.aa, h.rr, h.ar, h.lo, h.wA, h.wR, h.ba, h.bb, h.bag, h.glo, h.rp, rows_snoc hrq hu, h.ap, apartR_snoc h.aq hoff, h.bp, fun x hx => ?_, h.off, fun k hb => ?_, h.bel⟩
  · rcases List.mem_append.1 hx with hx | hx
    · exact h.bq x hx
    · rw [List.mem_singleton] at hx; subst hx; exact hn
  · rcases blkR_snoc hb with hb | hb
    · exact h.offq k hb
    · exact Nat.le_trans hB (hu.lt k hb).1
theorem Wk.lessW {x : Rw} (h : Wk w wr xa xb g D lA lR wv fv bs cs (ps ++ [x]) qs) : Wk w wr xa xb g D lA lR wv fv bs cs ps qs := by
  obtain ⟨Xp, hrp⟩ := h.rp
  exact ⟨h.a, h.r, h.aa, h.rr, h.ar, h.lo, h.wA, h.wR, h.ba, h.bb, h.bag, h.glo, ⟨Xp, rows_less hrp⟩, h.rq, apartR_less h.ap, h.aq, fun y hy => h.bp y (List.mem_append_left _ hy), h.bq, fun k hb => h.off k (blkR_more hb), h.offq, h.bel⟩
theorem Wk.lessF {x : Rw} (h : Wk w wr xa xb g D lA lR wv fv bs cs ps (qs ++ [x])) : Wk w wr xa xb g D lA lR wv fv bs cs ps qs := by
  obtain ⟨Xq, hrq⟩ := h.rq
  exact ⟨h.a, h.r, h.aa, h.rr, h.ar, h.lo, h.wA, h.wR, h.ba, h.bb, h.bag, h.glo, h.rp, ⟨Xq, rows_less hrq⟩, h.ap, apartR_less h.aq, h.bp, fun y hy => h.bq y (List.mem_append_left _ hy), h.off, fun k hb => h.offq k (blkR_more hb), h.bel⟩

/-- The Bag takes a list in. -/
theorem Wk.bagIn (h : Wk w wr xa xb g D lA lR wv fv bs cs ps qs) {wv' fv' : Value} {bs' cs' : List Value} (hb : BagWF w' g wv' fv' bs' cs' w.heap.size) (hk : Kept wr w' (fun k => k = g ∨ wv.ownBlock = some k ∨ fv.ownBlock = some k)) :
    Wk w w' xa xb g D lA lR wv' fv' bs' cs' ps qs := by
  have ty : ∀ k, (k = g ∨ wv.ownBlock = some k ∨ fv.ownBlock = some k) → ∃ c T, wr.heap[k]? = some (.cells c T (0, 0)) ∧ (T = 54 ∨ T = 64 ∨ T = 63) ∧ w.heap.size ≤ k := by
    rintro k (rfl | e | e)
    · exact ⟨_, _, h.bag.row, .inl rfl, h.glo⟩
    · obtain ⟨c', e'⟩ := rowT h.bag.wa e
      exact ⟨_, _, e', .inr (.inl rfl), (h.bag.wa.lt k e).1⟩
    · obtain ⟨c', e'⟩ := rowT h.bag.fi e
      exact ⟨_, _, e', .inr (.inr rfl), (h.bag.fi.lt k e).1⟩
  have ne : ∀ k c T, wr.heap[k]? = some (.cells c T (0, 0)) → T ≠ 54 → T ≠ 64 → T ≠ 63 → ¬ (k = g ∨ wv.ownBlock = some k ∨ fv.ownBlock = some k) := by
    intro k c T e t1 t2 t3 hs
    obtain ⟨c', T', e', ht, _⟩ := ty k hs
    rw [e] at e'
    simp at e'
    obtain ⟨_, rfl⟩ := e'
    rcases ht with h | h | h
    · exact t1 h
    · exact t2 h
    · exact t3 h
  have nb : ∀ T : TypeId, (T = 54 ∨ T = 64 ∨ T = 63) → T ≠ 80 ∧ T ≠ 57 ∧ T ≠ 82 := by
    intro T ht
    rcases ht with rfl | rfl | rfl <;> decide
  obtain ⟨Xp, hrp⟩ := h.rp
  obtain ⟨Xq, hrq⟩ := h.rq
  refine ⟨fun p hp => (h.a p hp).kept hk (fun k hf hs => ?_), fun p hp => (h.r p hp).kept hk (fun k hf hs => ?_), h.aa, h.rr, h.ar, h.lo, h.wA, h.wR, hk.heap h.ba (ne _ _ _ h.ba (by decide) (by decide) (by decide)), hk.heap h.bb (ne _ _ _ h.bb (by decide) (by decide) (by decide)), hb, h.glo, ⟨Xp, rows_kept hrp hk fun k hbk => ?_⟩, ⟨Xq, rows_kept hrq hk fun k hbk => ?_⟩, h.ap, h.aq, h.bp, h.bq, h.off, h.offq, bel_kept h.bel hk (fun k hs => by obtain ⟨_, _, _, _, h4⟩ := ty k hs; exact h4)⟩
  · obtain ⟨c', T', e', ht, _⟩ := ty k hs
    exact (h.a p hp).notBox e' (nb T' ht).1 (nb T' ht).2.1 hf
  · obtain ⟨c', T', e', ht, _⟩ := ty k hs
    exact (h.r p hp).notBox e' (nb T' ht).2.2 (nb T' ht).2.1 hf
  · obtain ⟨c', e'⟩ := blkR_type hrp hbk
    exact ne _ _ _ e' (by decide) (by decide) (by decide)
  · obtain ⟨c', e'⟩ := blkR_type hrq hbk
    exact ne _ _ _ e' (by decide) (by decide) (by decide)

/-- What Apart leaves: the boards, and where they lie. -/
structure Wz (w wr : World) (xa xb : Nat) (D : WcB) (lA lR : Nat → List WaT) : Prop where
  a : ∀ p, p < 2 → Bo wr (D.b p) (D.m p) (D.v p) (lA p) (lA p)
  r : ∀ p, p < 2 → Rb wr (D.c p) (D.r p) (lR p)
  wA : ∀ p, p < 2 → Wats (lA p)
  ba : wr.heap[xa]? = some (.cells #[.pointer (some ⟨D.b 0, 0, none⟩), .pointer (some ⟨D.b 1, 0, none⟩)] 27 (0, 0))
  bb : wr.heap[xb]? = some (.cells #[.pointer (some ⟨D.c 0, 0, none⟩), .pointer (some ⟨D.c 1, 0, none⟩)] 30 (0, 0))
  bel : Below w.heap.size w wr
theorem Wz.below (h : Wz w wr xa xb D lA lR) (hB : Below wr.heap.size wr w') : Wz w w' xa xb D lA lR :=
  ⟨fun p hp => (h.a p hp).below hB, fun p hp => (h.r p hp).below hB, h.wA, box_later h.ba hB, box_later h.bb hB, h.bel.trans (hB.mono h.bel.size)⟩
theorem Wk.apart (h : Wk w wr xa xb g D lA lR wv fv bs cs ps qs) (hk : Kept wr w' (fun k => BlkR ps k ∨ BlkR qs k)) : Wz w w' xa xb D lA lR := by
  obtain ⟨Xp, hrp⟩ := h.rp
  obtain ⟨Xq, hrq⟩ := h.rq
  have ne : ∀ k c T, wr.heap[k]? = some (.cells c T (0, 0)) → T ≠ 57 → T ≠ 77 → ¬ (BlkR ps k ∨ BlkR qs k) := by
    rintro k c T e t1 t2 (hb | hb)
    · exact blkR_not hrp e t1 hb
    · exact blkR_not hrq e t2 hb
  refine ⟨fun p hp => (h.a p hp).kept hk (fun k hf hs => ?_), fun p hp => (h.r p hp).kept hk (fun k hf hs => ?_), h.wA, hk.heap h.ba (ne _ _ _ h.ba (by decide) (by decide)), hk.heap h.bb (ne _ _ _ h.bb (by decide) (by decide)), bel_kept h.bel hk (fun k hs => hs.elim (fun hb => (h.off k hb).1) (h.offq k))⟩
  · rcases hs with hb | hb
    · exact ((h.off k hb).2 p hp).1 hf
    · obtain ⟨c', e'⟩ := blkR_type hrq hb
      exact (h.a p hp).notBox e' (by decide) (by decide) hf
  · rcases hs with hb | hb
    · exact ((h.off k hb).2 p hp).2 hf
    · obtain ⟨c', e'⟩ := blkR_type hrq hb
      exact (h.r p hp).notBox e' (by decide) (by decide) hf

end Go.Proofs.YtkcapiblicfboaaGreatDoor
