/- Two rings and the document's two lists beside them, in memory; no Go function is walked here. -/
import Derived.Test.YtcbbclniginciaaCaE
namespace Go.Proofs.Ytcbbclniginciaa
open Go.RowKit
set_option maxRecDepth 8000

/-- A function turned at one place. -/
def upd {α : Type} (f : Nat → α) (k : Nat) (x : α) : Nat → α := fun j => if j = k then x else f j
theorem upd_same {α : Type} (f : Nat → α) (k : Nat) (x : α) : upd f k x k = x := if_pos rfl
theorem upd_other {α : Type} (f : Nat → α) {k j : Nat} (x : α) (h : j ≠ k) : upd f k x j = f j := if_neg h

theorem ne_ty2 {w : World} {a b : Nat} {c1 c2 : Array Value} {t1 t2 : TypeId} {f1 f2 : Nat × Nat} (h1 : w.heap[a]? = some (.cells c1 t1 f1)) (h2 : w.heap[b]? = some (.cells c2 t2 f2)) (ht : t1 ≠ t2) : a ≠ b := by
  rintro rfl
  rw [h1] at h2
  simp at h2
  exact ht h2.2.1

theorem ownI_block {w : World} {base : Nat} {v : Value} {xs : List Int} (h : OwnI w base v xs) {b : Nat} (hb : v.ownBlock = some b) : base ≤ b ∧ ∃ c, w.heap[b]? = some (.cells c 2 (0, 0)) := by
  obtain ⟨_, ⟨rfl, _⟩ | ⟨g, cap, cur, rfl, h1, h3, _⟩⟩ := h
  · cases hb
  · cases hb; exact ⟨h1, _, h3⟩

theorem ownI_kept {w w' : World} {S : Nat → Prop} {base : Nat} {v : Value} {xs : List Int} (h : OwnI w base v xs) (hk : Kept w w' S) (hn : ∀ k, v.ownBlock = some k → ¬ S k) : OwnI w' base v xs := by
  obtain ⟨h0, h | ⟨g, cap, cur, rfl, h2, h3, h4⟩⟩ := h
  · exact ⟨h0, .inl h⟩
  · exact ⟨h0, .inr ⟨g, cap, cur, rfl, h2, hk.heap h3 (hn g rfl), h4⟩⟩

theorem IsRg.block {T : TypeId} {w : World} {p m : Nat} {xs : List Value} (h : IsRg T w p m xs) : ∃ c, w.heap[p]? = some (.cells c T (0, 0)) := by
  obtain ⟨_, _, ⟨c, h, _⟩, _⟩ := h
  exact ⟨c, h⟩

abbrev ptrO (o : Option Nat) : Value := .pointer (o.map fun p => ⟨p, 0, none⟩)

/-- The first n of the two sides are made: P the rings, D the document's blocks, V their lists, L what was put. -/
structure RsK (w0 w : World) (n br bd : Nat) (mo : Nat → Int) (P : Nat → Option Nat) (D : Nat → Nat) (V : Nat → Value) (L : Nat → List Int) : Prop where
  rr : w.rowIs br 25 2 (fun k => if k < n then ptrO (P k) else .pointer none)
  rd : w.rowIs bd 27 2 (fun k => if k < n then .pointer (some ⟨D k, 0, none⟩) else .pointer none)
  num : ∀ k, k < n → w.heap[D k]? = some (.cells (nuC (mo k) (V k)) 34 (0, 0))
  own : ∀ k, k < n → OwnI w w0.heap.size (V k) (L k)
  ring : ∀ k p, k < n → P k = some p → (0 ≤ mo k ∧ mo k ≤ 64) ∧ w0.heap.size ≤ p ∧ IsRg 72 w p (mo k).toNat (lastN (mo k).toNat ((L k).map (Value.int .i64)))
  dB : ∀ k, k < n → w0.heap.size ≤ D k
  brB : w0.heap.size ≤ br
  bdB : w0.heap.size ≤ bd
  nP : ∀ i j p, i < n → j < n → i ≠ j → P i = some p → P j ≠ some p
  nD : ∀ i j, i < n → j < n → i ≠ j → D i ≠ D j
  nV : ∀ i j b, i < n → j < n → i ≠ j → (V i).ownBlock = some b → (V j).ownBlock ≠ some b
  bel : Below w0.heap.size w0 w

theorem RsK.below {w0 w w' : World} {n br bd : Nat} {mo : Nat → Int} {P : Nat → Option Nat} {D : Nat → Nat} {V : Nat → Value} {L : Nat → List Int} (h : RsK w0 w n br bd mo P D V L) (hb : Below w.heap.size w w') : RsK w0 w' n br bd mo P D V L := by
  have hk := Below.kept hb
  refine ⟨h.rr.of_block (hb.block _ h.rr.lt), h.rd.of_block (hb.block _ h.rd.lt), fun k hk' => (hb.block _ (lt_of_block (h.num k hk'))).trans (h.num k hk'), fun k hk' => ownI_kept (h.own k hk') hk (fun b e => ?_), fun k p hk' e => ?_, h.dB, h.brB, h.bdB, h.nP, h.nD, h.nV, h.bel.trans (hb.mono h.bel.size)⟩
  · obtain ⟨_, c, hc⟩ := ownI_block (h.own k hk') e
    have := lt_of_block hc
    omega
  · obtain ⟨h1, h2, h3⟩ := h.ring k p hk' e
    exact ⟨h1, h2, h3.below hb h3.lt⟩

/-- A step that touched nothing but side k's blocks and new ones. -/
theorem RsK.step {w0 w w' : World} {n br bd : Nat} {mo : Nat → Int} {P : Nat → Option Nat} {D : Nat → Nat} {V : Nat → Value} {L : Nat → List Int} (h : RsK w0 w n br bd mo P D V L) {k : Nat} (hk : k < n)
    (hS : Kept w w' (fun b => P k = some b ∨ b = D k ∨ (V k).ownBlock = some b)) {v' : Value} {l' : List Int} (hn : w'.heap[D k]? = some (.cells (nuC (mo k) v') 34 (0, 0))) (ho : OwnI w' w0.heap.size v' l')
    (hr : ∀ p, P k = some p → IsRg 72 w' p (mo k).toNat (lastN (mo k).toNat (l'.map (Value.int .i64)))) (hv : ∀ b, v'.ownBlock = some b → (V k).ownBlock = some b ∨ w.heap.size ≤ b) :
    RsK w0 w' n br bd mo P D (upd V k v') (upd L k l') := by
  have tP : ∀ j p, j < n → P j = some p → ∃ c, w.heap[p]? = some (.cells c 72 (0, 0)) := fun j p hj e => (h.ring j p hj e).2.2.block
  have tV : ∀ j b, j < n → (V j).ownBlock = some b → ∃ c, w.heap[b]? = some (.cells c 2 (0, 0)) := fun j b hj e => (ownI_block (h.own j hj) e).2
  obtain ⟨cr, hcr, _⟩ := h.rr
  obtain ⟨cd, hcd, _⟩ := h.rd
  have fr : ¬ (P k = some br ∨ br = D k ∨ (V k).ownBlock = some br) := by
    rintro (e | e | e)
    · obtain ⟨c, hc⟩ := tP k _ hk e; exact ne_ty2 hcr hc (by decide) rfl
    · exact ne_ty2 hcr (h.num k hk) (by decide) e
    · obtain ⟨c, hc⟩ := tV k _ hk e; exact ne_ty2 hcr hc (by decide) rfl
  have fd : ¬ (P k = some bd ∨ bd = D k ∨ (V k).ownBlock = some bd) := by
    rintro (e | e | e)
    · obtain ⟨c, hc⟩ := tP k _ hk e; exact ne_ty2 hcd hc (by decide) rfl
    · exact ne_ty2 hcd (h.num k hk) (by decide) e
    · obtain ⟨c, hc⟩ := tV k _ hk e; exact ne_ty2 hcd hc (by decide) rfl
  have fD : ∀ j, j < n → j ≠ k → ¬ (P k = some (D j) ∨ D j = D k ∨ (V k).ownBlock = some (D j)) := by
    rintro j hj hne (e | e | e)
    · obtain ⟨c, hc⟩ := tP k _ hk e; exact ne_ty2 (h.num j hj) hc (by decide) rfl
    · exact h.nD j k hj hk hne e
    · obtain ⟨c, hc⟩ := tV k _ hk e; exact ne_ty2 (h.num j hj) hc (by decide) rfl
  have fP : ∀ j p, j < n → j ≠ k → P j = some p → ¬ (P k = some p ∨ p = D k ∨ (V k).ownBlock = some p) := by
    rintro j p hj hne he (e | e | e)
    · exact h.nP j k p hj hk hne he e
    · obtain ⟨c, hc⟩ := tP j _ hj he; exact ne_ty2 hc (h.num k hk) (by decide) e
    · obtain ⟨c, hc⟩ := tP j _ hj he; obtain ⟨c2, hc2⟩ := tV k _ hk e; exact ne_ty2 hc hc2 (by decide) rfl
  have fV : ∀ j b, j < n → j ≠ k → (V j).ownBlock = some b → ¬ (P k = some b ∨ b = D k ∨ (V k).ownBlock = some b) := by
    rintro j b hj hne he (e | e | e)
    · obtain ⟨c, hc⟩ := tV j _ hj he; obtain ⟨c2, hc2⟩ := tP k _ hk e; exact ne_ty2 hc hc2 (by decide) rfl
    · obtain ⟨c, hc⟩ := tV j _ hj he; exact ne_ty2 hc (h.num k hk) (by decide) e
    · exact h.nV j k b hj hk hne he e
  refine ⟨h.rr.of_block (hS.block _ h.rr.lt fr), h.rd.of_block (hS.block _ h.rd.lt fd), fun j hj => ?_, fun j hj => ?_, fun j p hj e => ?_, h.dB, h.brB, h.bdB, h.nP, h.nD, ?_, h.bel.trans (hS.below h.bel.size ?_)⟩
  · by_cases e : j = k
    · subst e; rw [upd_same]; exact hn
    · rw [upd_other _ _ e]; exact hS.heap (h.num j hj) (fD j hj e)
  · by_cases e : j = k
    · subst e; rw [upd_same, upd_same]; exact ho
    · rw [upd_other _ _ e, upd_other _ _ e]; exact ownI_kept (h.own j hj) hS (fun b hb => fV j b hj e hb)
  · obtain ⟨h1, h2, h3⟩ := h.ring j p hj e
    refine ⟨h1, h2, ?_⟩
    by_cases e' : j = k
    · subst e'; rw [upd_same]; exact hr p e
    · rw [upd_other _ _ e']; exact h3.kept hS (fP j p hj e' e)
  · intro i j b hi hj hne hb hb'
    by_cases e : i = k
    · subst e
      rw [upd_same] at hb
      rw [upd_other _ _ (Ne.symm hne)] at hb'
      rcases hv b hb with e | e
      · exact h.nV i j b hi hj hne e hb'
      · obtain ⟨c, hc⟩ := tV j b hj hb'
        have := lt_of_block hc; omega
    · rw [upd_other _ _ e] at hb
      by_cases e' : j = k
      · subst e'
        rw [upd_same] at hb'
        rcases hv b hb' with e'' | e''
        · exact h.nV i j b hi hj hne hb e''
        · obtain ⟨c, hc⟩ := tV i b hi hb
          have := lt_of_block hc; omega
      · rw [upd_other _ _ e'] at hb'
        exact h.nV i j b hi hj hne hb hb'
  · rintro b (e | e | e)
    · exact (h.ring k b hk e).2.1
    · rw [e]; exact h.dB k hk
    · exact (ownI_block (h.own k hk) e).1

end Go.Proofs.Ytcbbclniginciaa
