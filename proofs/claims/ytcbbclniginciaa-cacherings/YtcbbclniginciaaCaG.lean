/- One side more is made. -/
import Derived.Test.YtcbbclniginciaaCaF
import Derived.Maps.AppendAt
namespace Go.Proofs.Ytcbbclniginciaa
open Go.RowKit
set_option maxRecDepth 8000

theorem alloc_old {w : World} {b : Nat} (o : Obj) (h : b < w.heap.size) : (w.alloc o).heap[b]? = w.heap[b]? := Below.heap_alloc _ _ _ h

theorem RsK.more {w0 w : World} {k br bd : Nat} {mo : Nat → Int} {P : Nat → Option Nat} {D : Nat → Nat} {V : Nat → Value} {L : Nat → List Int} (h : RsK w0 w k br bd mo P D V L) (hk : k < 2) (o : Option Nat)
    (ho : ∀ p, o = some p → (0 ≤ mo k ∧ mo k ≤ 64) ∧ w0.heap.size ≤ p ∧ IsRg 72 w p (mo k).toNat [] ∧ ∀ j, j < k → P j ≠ some p) :
    RsK w0 (((w.setCell ⟨br, k, none⟩ (ptrO o)).setCell ⟨bd, k, none⟩ (.pointer (some ⟨w.heap.size, 0, none⟩))).alloc (.cells (nuC (mo k) (.slice none 0 0)) 34)) (k + 1) br bd mo (upd P k o) (upd D k w.heap.size) (upd V k (.slice none 0 0)) (upd L k []) := by
  obtain ⟨w3, e3⟩ : ∃ w3, w3 = ((w.setCell ⟨br, k, none⟩ (ptrO o)).setCell ⟨bd, k, none⟩ (.pointer (some ⟨w.heap.size, 0, none⟩))).alloc (.cells (nuC (mo k) (.slice none 0 0)) 34) := ⟨_, rfl⟩
  have tP : ∀ j p, j < k → P j = some p → ∃ c, w.heap[p]? = some (.cells c 72 (0, 0)) := fun j p hj e => (h.ring j p hj e).2.2.block
  have tV : ∀ j b, j < k → (V j).ownBlock = some b → ∃ c, w.heap[b]? = some (.cells c 2 (0, 0)) := fun j b hj e => (ownI_block (h.own j hj) e).2
  have hrr := h.rr
  have hrd := h.rd
  obtain ⟨cr, hcr, _⟩ := h.rr
  obtain ⟨cd, hcd, _⟩ := h.rd
  have hne : br ≠ bd := ne_ty2 hcr hcd (by decide)
  have lr := hrr.lt
  have ld := hrd.lt
  have hK : Kept w w3 (fun b => b = br ∨ b = bd) := by
    rw [e3]
    exact (((Kept.refl _ _).setCell _ _ (fun _ => .inl rfl)).setCell _ _ (fun _ => .inr rfl)).alloc _
  have r1 : w3.rowIs br 25 2 (fun j => if j < k + 1 then ptrO (upd P k o j) else .pointer none) := by
    have := ((hrr.set k (ptrO o)).setOther (a := ⟨bd, k, none⟩) hne (.pointer (some ⟨w.heap.size, 0, none⟩))).alloc (.cells (nuC (mo k) (.slice none 0 0)) 34)
    rw [← e3] at this
    refine World.rowIs.congr this (fun i _ => ?_)
    by_cases e : i = k
    · subst e; rw [if_pos rfl, if_pos (by omega), upd_same]
    · rw [if_neg e, upd_other _ _ e]
      by_cases hi : i < k
      · rw [if_pos hi, if_pos (by omega)]
      · rw [if_neg hi, if_neg (by omega)]
  have r2 : w3.rowIs bd 27 2 (fun j => if j < k + 1 then .pointer (some ⟨upd D k w.heap.size j, 0, none⟩) else .pointer none) := by
    have := ((hrd.setOther (a := ⟨br, k, none⟩) (Ne.symm hne) (ptrO o)).set k (.pointer (some ⟨w.heap.size, 0, none⟩))).alloc (.cells (nuC (mo k) (.slice none 0 0)) 34)
    rw [← e3] at this
    refine World.rowIs.congr this (fun i _ => ?_)
    by_cases e : i = k
    · subst e; rw [if_pos rfl, if_pos (by omega), upd_same]
    · rw [if_neg e, upd_other _ _ e]
      by_cases hi : i < k
      · rw [if_pos hi, if_pos (by omega)]
      · rw [if_neg hi, if_neg (by omega)]
  have r3 : w3.heap[w.heap.size]? = some (.cells (nuC (mo k) (.slice none 0 0)) 34 (0, 0)) := by
    rw [e3]
    have := heap_alloc_new ((w.setCell ⟨br, k, none⟩ (ptrO o)).setCell ⟨bd, k, none⟩ (.pointer (some ⟨w.heap.size, 0, none⟩))) (.cells (nuC (mo k) (.slice none 0 0)) 34)
    simpa using this
  rw [← e3]
  have fD : ∀ j, j < k → ¬ (D j = br ∨ D j = bd) := by
    rintro j hj (e | e)
    · exact ne_ty2 (h.num j hj) hcr (by decide) e
    · exact ne_ty2 (h.num j hj) hcd (by decide) e
  have fT : ∀ (b : Nat) (t : TypeId) c, w.heap[b]? = some (.cells c t (0, 0)) → t ≠ 25 → t ≠ 27 → ¬ (b = br ∨ b = bd) := by
    rintro b t c hb h1 h2 (e | e)
    · exact ne_ty2 hb hcr h1 e
    · exact ne_ty2 hb hcd h2 e
  refine ⟨r1, r2, fun j hj => ?_, fun j hj => ?_, fun j p hj e => ?_, fun j hj => ?_, h.brB, h.bdB, ?_, ?_, ?_, h.bel.trans (hK.below h.bel.size ?_)⟩
  · by_cases e : j = k
    · subst e; rw [upd_same, upd_same]; exact r3
    · rw [upd_other _ _ e, upd_other _ _ e]; exact hK.heap (h.num j (by omega)) (fD j (by omega))
  · by_cases e : j = k
    · subst e; rw [upd_same, upd_same]; exact World.ownsRow_nil _ _ _ _
    · rw [upd_other _ _ e, upd_other _ _ e]
      refine ownI_kept (h.own j (by omega)) hK (fun b hb => ?_)
      obtain ⟨c, hc⟩ := tV j b (by omega) hb
      exact fT b _ c hc (by decide) (by decide)
  · by_cases e' : j = k
    · subst e'
      rw [upd_same] at e
      obtain ⟨h1, h2, h3, _⟩ := ho p e
      refine ⟨h1, h2, ?_⟩
      rw [upd_same]
      obtain ⟨c, hc⟩ := h3.block
      simpa [lastN] using h3.kept hK (fT p _ c hc (by decide) (by decide))
    · rw [upd_other _ _ e'] at e
      obtain ⟨h1, h2, h3⟩ := h.ring j p (by omega) e
      rw [upd_other _ _ e']
      obtain ⟨c, hc⟩ := h3.block
      exact ⟨h1, h2, h3.kept hK (fT p _ c hc (by decide) (by decide))⟩
  · by_cases e : j = k
    · subst e; rw [upd_same]; exact h.bel.size
    · rw [upd_other _ _ e]; exact h.dB j (by omega)
  · intro i j p hi hj hij e
    by_cases e1 : i = k
    · subst e1
      rw [upd_same] at e
      rw [upd_other _ _ (Ne.symm hij)]
      exact (ho p e).2.2.2 j (by omega)
    · rw [upd_other _ _ e1] at e
      by_cases e2 : j = k
      · subst e2
        rw [upd_same]
        intro e3
        exact (ho p e3).2.2.2 i (by omega) e
      · rw [upd_other _ _ e2]
        exact h.nP i j p (by omega) (by omega) hij e
  · intro i j hi hj hij e
    by_cases e1 : i = k
    · subst e1
      rw [upd_same, upd_other _ _ (Ne.symm hij)] at e
      have := lt_of_block (h.num j (by omega)); omega
    · rw [upd_other _ _ e1] at e
      by_cases e2 : j = k
      · subst e2
        rw [upd_same] at e
        have := lt_of_block (h.num i (by omega)); omega
      · rw [upd_other _ _ e2] at e
        exact h.nD i j (by omega) (by omega) hij e
  · intro i j b hi hj hij e e'
    by_cases e1 : i = k
    · subst e1; rw [upd_same] at e; cases e
    · by_cases e2 : j = k
      · subst e2; rw [upd_same] at e'; cases e'
      · rw [upd_other _ _ e1] at e
        rw [upd_other _ _ e2] at e'
        exact h.nV i j b (by omega) (by omega) hij e e'
  · rintro b (e | e)
    · rw [e]; exact h.brB
    · rw [e]; exact h.bdB

theorem heap_setC {w : World} {b i : Nat} {cs : Array Value} {t : TypeId} {fr : Nat × Nat} (c : Value) (h : w.heap[b]? = some (.cells cs t fr)) : (w.setCell ⟨b, i, none⟩ c).heap[b]? = some (.cells (cs.setIfInBounds i c) t fr) := by
  simp [World.setCell, Array.getElem?_modify, h]

/-- Behind a call that turned side k's ring alone. -/
theorem RsK.past {w0 w w5 : World} {n br bd k p : Nat} {mo : Nat → Int} {P : Nat → Option Nat} {D : Nat → Nat} {V : Nat → Value} {L : Nat → List Int} (h : RsK w0 w n br bd mo P D V L) (hk : k < n) (hk2 : k < 2) (hP : P k = some p) (k5 : Kept w w5 (· = p)) :
    w5.cell? ⟨bd, k, none⟩ = some (.pointer (some ⟨D k, 0, none⟩)) ∧ w5.cell? ⟨br, k, none⟩ = some (ptrO (P k)) ∧ w5.heap[D k]? = some (.cells (nuC (mo k) (V k)) 34 (0, 0)) ∧ OwnI w5 w0.heap.size (V k) (L k) ∧ D k < w5.heap.size ∧ bd < w5.heap.size ∧ br < w5.heap.size := by
  obtain ⟨c, hc⟩ := (h.ring k p hk hP).2.2.block
  obtain ⟨cr, hcr, _⟩ := h.rr
  obtain ⟨cd, hcd, _⟩ := h.rd
  have n1 : bd ≠ p := ne_ty2 hcd hc (by decide)
  have n2 : br ≠ p := ne_ty2 hcr hc (by decide)
  have n3 : D k ≠ p := ne_ty2 (h.num k hk) hc (by decide)
  have hd := k5.heap (h.num k hk) n3
  refine ⟨?_, ?_, hd, ownI_kept (h.own k hk) k5 (fun b hb e => ?_), lt_of_block hd, lt_of_block (k5.heap hcd n1), lt_of_block (k5.heap hcr n2)⟩
  · rw [World.cell?_of_block (k5.block bd h.rd.lt n1), h.rd.cell hk2, if_pos hk]
  · rw [World.cell?_of_block (k5.block br h.rr.lt n2), h.rr.cell hk2, if_pos hk]
  · obtain ⟨c2, hc2⟩ := (ownI_block (h.own k hk) hb).2
    exact ne_ty2 hc2 hc (by decide) e

/-- Side k is cleared. -/
theorem RsK.cleared {w0 w w5 : World} {n br bd k p : Nat} {mo : Nat → Int} {P : Nat → Option Nat} {D : Nat → Nat} {V : Nat → Value} {L : Nat → List Int} (h : RsK w0 w n br bd mo P D V L) (hk : k < n) (hP : P k = some p) (k5 : Kept w w5 (· = p))
    (hd : w5.heap[D k]? = some (.cells (nuC (mo k) (V k)) 34 (0, 0))) (hr : IsRg 72 w5 p (mo k).toNat []) :
    RsK w0 (w5.setCell ⟨D k, 1, none⟩ (.slice none 0 0)) n br bd mo P D (upd V k (.slice none 0 0)) (upd L k []) := by
  refine h.step hk ((k5.mono (fun b _ e => .inl (by rw [hP, e]))).setCell _ _ (fun _ => .inr (.inl rfl))) (heap_setC _ hd) (World.ownsRow_nil _ _ _ _) (fun q hq => ?_) (fun b hb => by cases hb)
  rw [hP] at hq
  cases hq
  obtain ⟨c, hc⟩ := hr.block
  have := hr.of_block (w' := w5.setCell ⟨D k, 1, none⟩ (.slice none 0 0)) (Below.heap_setCell _ _ _ _ (by show p ≠ D k; exact ne_ty2 hc hd (by decide)))
  simpa [lastN] using this

/-- One more behind side k's list. -/
theorem RsK.putOne {w0 w w5 w6 : World} {n br bd k p : Nat} {mo : Nat → Int} {P : Nat → Option Nat} {D : Nat → Nat} {V : Nat → Value} {L : Nat → List Int} (h : RsK w0 w n br bd mo P D V L) (hk : k < n) (hP : P k = some p) (k5 : Kept w w5 (· = p)) (x : Int)
    (hd : w5.heap[D k]? = some (.cells (nuC (mo k) (V k)) 34 (0, 0))) (hr : IsRg 72 w5 p (mo k).toNat (lastN (mo k).toNat (((L k) ++ [x]).map (Value.int .i64)))) (k6 : Kept w5 w6 (fun b => (V k).ownBlock = some b)) {v' : Value} (ho : OwnI w6 w0.heap.size v' (L k ++ [x])) (hv : ∀ b, v'.ownBlock = some b → (V k).ownBlock = some b ∨ w5.heap.size ≤ b) :
    RsK w0 (w6.setCell ⟨D k, 1, none⟩ v') n br bd mo P D (upd V k v') (upd L k (L k ++ [x])) := by
  have nD : ∀ b, (V k).ownBlock = some b → D k ≠ b := fun b hb => by
    obtain ⟨c2, hc2⟩ := (ownI_block (h.own k hk) hb).2
    exact ne_ty2 (h.num k hk) hc2 (by decide)
  obtain ⟨c, hc⟩ := hr.block
  have nP : ∀ b, (V k).ownBlock = some b → p ≠ b := fun b hb => by
    obtain ⟨c2, hc2⟩ := (ownI_block (h.own k hk) hb).2
    obtain ⟨c3, hc3⟩ := (h.ring k p hk hP).2.2.block
    exact ne_ty2 hc3 hc2 (by decide)
  have hd6 := k6.heap hd (fun e => nD _ e rfl)
  have hK : Kept w (w6.setCell ⟨D k, 1, none⟩ v') (fun b => P k = some b ∨ b = D k ∨ (V k).ownBlock = some b) :=
    ((k5.mono (S' := fun b => P k = some b ∨ b = D k ∨ (V k).ownBlock = some b) (fun b _ e => .inl (by rw [hP, e]))).trans k6 (fun b _ e => .inr (.inr e))).setCell _ _ (fun _ => .inr (.inl rfl))
  have hvD : ∀ b, v'.ownBlock = some b → b ≠ D k := fun b hb => by
    rcases hv b hb with e | e
    · exact Ne.symm (nD b e)
    · have := lt_of_block hd; omega
  refine h.step hk hK (heap_setC _ hd6) ?_ (fun q hq => ?_) (fun b hb => ?_)
  · exact ownI_kept ho (S := (· = D k)) ((Kept.refl _ _).setCell _ _ (fun _ => rfl)) (fun b hb => hvD b hb)
  · rw [hP] at hq
    cases hq
    refine (hr.kept k6 (fun e => nP _ e rfl)).of_block (Below.heap_setCell _ _ _ _ ?_)
    show p ≠ D k
    exact ne_ty2 hc hd (by decide)
  · rcases hv b hb with e | e
    · exact .inl e
    · exact .inr (Nat.le_trans k5.size e)

theorem Try.infoI64 : (Try.prog.info? 2).map (fun i => (i.zero, i.size, i.bytes)) = some (some (.int .i64 0), 1, 8) := by kernel_rfl

theorem step_appC {P : Program} {ops : Array Oper} {o : Oper} {a : Act} {w : World} {K : Act → World → Prop} {Q : Exit → Act → World → Prop} {E : Prop}
    (hg : o.guard = none) (s x : Operand) (t : TypeId) (hop : o.op = Op.call { callee := Callee.builtin Builtin.append, args := #[s, x], argTypes := #[t, t] })
    (base : Nat) (e : TypeId) (i : TypeInfo) (z : Value) (size bytes : Nat) (ht : P.underlying t = some (.slice e)) (hi : P.info? e = some i) (hz : i.zero = some z)
    (hsize : i.size = size) (hby : i.bytes = bytes) (hzs : z.cells.size = size) (hsz : 0 < size)
    (v : Value) (n : Nat) (xs : List Value) (hs : a.eval s = v) (hown : w.ownsRow base e size v n xs)
    (ad : Addr) (m c : Nat) (news : List Value) (hx : a.eval x = .slice (some ad) m c) (hl : news.length = m * size) (hnews : ∀ j u, news[j]? = some u → w.cell? (ad.add j) = some u) (h1 : ∀ u ∈ news, u.oneCell' = true)
    (h63 : n + m ≤ maxLen) (hbytes : (n + m) * bytes ≤ 140737488355328) (hbase : base ≤ w.heap.size)
    (h : ∀ v' w', w'.ownsRow base e size v' (n + m) (xs ++ news) → w.grownBy w' v.ownBlock → (v'.ownBlock = v.ownBlock ∨ v'.ownBlock = some w.heap.size) → K (a.put o.dst v') w') :
    if Region.wanted o (yielded ops a.tmps) = true then Oper.wp P o a w K Q else E := by
  have hw : Region.wanted o (yielded ops a.tmps) = true := by simp [Region.wanted, hg]
  rw [if_pos hw]
  obtain ⟨v', w', hr, h2, h3, _, h5⟩ := run_append_own_at (P := P) w base t o.type e i z size bytes ht hi hz hsize hby hzs hsz v n xs hown ad m c news hl hnews h1 h63 hbytes hbase
  unfold Oper.wp execOp
  simp only [hop, resolve, invoke, builtin, Sem.run_bind, Sem.run_pure, Result.andThen_ok, List.map_toArray, List.map_cons, List.map_nil, hs, hx, hr]
  exact h v' w' h2 h3 h5

end Go.Proofs.Ytcbbclniginciaa
