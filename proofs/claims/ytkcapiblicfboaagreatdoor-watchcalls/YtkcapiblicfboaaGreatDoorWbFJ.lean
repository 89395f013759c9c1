/- The calls of WatchCalls, each beside all that must stay. -/
import Derived.Test.YtkcapiblicfboaaGreatDoorWbEJ
import Derived.Test.YtkcapiblicfboaaGreatDoorWaGJ
namespace Go.Proofs.YtkcapiblicfboaaGreatDoor
open Go.RowKit Go.Shelf
set_option maxRecDepth 8000
set_option linter.unusedSimpArgs false

variable {w wr w' : World} {xa xb g : Nat} {D : WcB} {lA lR : Nat → List WaT} {wv fv : Value} {bs cs : List Value} {ps qs : List Rw}

theorem stF_le (s : StT) {l : List WaT} (h : Wats l) : (stF s l).length ≤ 64 := by
  unfold stF
  split
  · exact Nat.le_trans (List.length_filter_le _ _) h.le
  · simp
theorem stW_le (s : StT) {l : List WaT} (h : Wats l) : (stW s l).length ≤ 64 := by
  unfold stW
  split
  · simp
  · split
    · simp
    · split
      · exact Nat.le_trans (List.length_filter_le _ _) h.le
      · exact h.le

theorem does_wk (s : StT) {p : Nat} (h : Wk w wr xa xb g D lA lR wv fv bs cs ps qs) (hp : p < 2) (hs : s.few) (hk : 0 ≤ s.what ∧ s.what ≤ 4) :
    Calls Tryz.prog 8 #[.pointer (some ⟨D.b p, 0, none⟩), stAgg s] wr fun e w' => ∃ uf uw v', e = .returned (.agg #[.int .i64 (stE s (lA p)), uf, uw]) ∧ Wk w w' xa xb g (D.setV p v') (updW lA p (stL s (lA p))) lR wv fv bs cs (ps ++ [⟨uw, (stW s (lA p)).length⟩]) (qs ++ [⟨uf, (stF s (lA p)).length⟩]) ∧ w'.ownsRow w.heap.size 77 5 uf (stF s (lA p)).length (fiFlat s.ch (stF s (lA p))) ∧ w'.ownsRow w.heap.size 57 3 uw (stW s (lA p)).length (waFlat (stW s (lA p))) ∧ (∀ (k : Nat) (c : Array Value), wr.heap[k]? = some (Obj.cells c 66 (0, 0)) → w'.heap[k]? = some (Obj.cells c 66 (0, 0))) ∧ wr.heap.size ≤ w'.heap.size := by
  refine (does_any s (h.a p hp) (h.wA p hp) hs hk).mono ?_
  rintro e w1 ⟨uf, uw, rfl, hF, hW, v', hb, hkp, hn, hap⟩
  obtain ⟨Xp, hrp⟩ := h.rp
  obtain ⟨Xq, hrq⟩ := h.rq
  have h1 := h.stepA hp hb hkp hn ((h.wA p hp).step s hs)
  have h2 := h1.rowF hF h.bel.size (by have := stF_le s (h.wA p hp); omega) (fun k e hb => by have := rows_lt hrq hb; have := (hF.lt k e).1; omega)
  have h3 := h2.rowW hW h.bel.size (by have := stW_le s (h.wA p hp); omega) (fun k e => by
    have hge := (hW.lt k e).1
    refine ⟨fun q hq => ⟨fun hf => ?_, fun hf => ?_⟩, fun hb => ?_⟩
    · by_cases eq : q = p
      · subst eq
        rw [fa_setV_at] at hf
        rcases hf with hf | hf | hf
        · have := (h.a q hq).lt (.inl hf); omega
        · have := (h.a q hq).lt (.inr (.inl hf)); omega
        · exact hap k e hf
      · rw [fa_setV D p v' eq] at hf
        have := (h.a q hq).lt hf; omega
    · have := (h.r q hq).lt hf; omega
    · have := rows_lt hrp hb; omega)
  exact ⟨uf, uw, v', rfl, h3, row_lower hF h.bel.size, row_lower hW h.bel.size, fun k c e => hkp.heap e ((h.a p hp).notBox e (by decide) (by decide)), hkp.size⟩

theorem wants_wk (s : StT) {p : Nat} (h : Wk w wr xa xb g D lA lR wv fv bs cs ps qs) (hp : p < 2) (hs : s.few) (hk : 0 ≤ s.what ∧ s.what ≤ 4) :
    Calls Tryz.prog 9 #[.pointer (some ⟨D.c p, 0, none⟩), stAgg s] wr fun e w' => ∃ yf yw r', e = .returned (.agg #[.int .i64 (stE s (lR p)), yf, yw]) ∧ Wk w w' xa xb g (D.setR p r') lA (updW lR p (stL s (lR p))) wv fv bs cs ps qs ∧ w'.ownsRow 0 77 5 yf (stF s (lR p)).length (fiFlat s.ch (stF s (lR p))) ∧ w'.ownsRow 0 57 3 yw (stW s (lR p)).length (waFlat (stW s (lR p))) ∧ (∀ (k : Nat) (c : Array Value), wr.heap[k]? = some (Obj.cells c 66 (0, 0)) → w'.heap[k]? = some (Obj.cells c 66 (0, 0))) ∧ (∀ B u n xs, wr.ownsRow B 77 5 u n xs → w'.ownsRow B 77 5 u n xs) ∧ (∀ B u n xs, (∀ k, u.ownBlock = some k → BlkR ps k) → wr.ownsRow B 57 3 u n xs → w'.ownsRow B 57 3 u n xs) ∧ wr.heap.size ≤ w'.heap.size := by
  refine (wants_any s (h.r p hp) (h.wR p hp) hs hk).mono ?_
  rintro e w1 ⟨yf, yw, rfl, hF, hW, r', hb, hkp, hn⟩
  refine ⟨yf, yw, r', rfl, h.stepR hp hb hkp hn ((h.wR p hp).step s hs), row_lower hF (Nat.zero_le _), hW, fun k c e => hkp.heap e ((h.r p hp).notBox e (by decide) (by decide)), fun B u n xs hu => ?_, fun B u n xs ho hu => ?_, hkp.size⟩
  · refine rowK hu hkp (fun k e => ?_)
    obtain ⟨c', e'⟩ := rowT hu e
    exact (h.r p hp).notBox e' (by decide) (by decide)
  · exact rowK hu hkp (fun k e hf => ((h.off k (ho k e)).2 p hp).2 hf)

/-- Some of the lists. -/
theorem Wk.pickW {ps' : List Rw} (h : Wk w wr xa xb g D lA lR wv fv bs cs ps qs) (f : Nat → Nat) (hf : ∀ j (hj : j < ps'.length), ∃ hj' : f j < ps.length, ps'[j] = ps[f j]) (inj : ∀ i j, i ≠ j → f i ≠ f j) :
    Wk w wr xa xb g D lA lR wv fv bs cs ps' qs := by
  obtain ⟨Xp, hrp⟩ := h.rp
  have hb : ∀ k, BlkR ps' k → BlkR ps k := by
    rintro k ⟨j, hj, e⟩
    obtain ⟨hj', e'⟩ := hf j hj
    exact ⟨f j, hj', by rw [← e']; exact e⟩
  refine ⟨h.a, h.r, h.aa, h.rr, h.ar, h.lo, h.wA, h.wR, h.ba, h.bb, h.bag, h.glo, ⟨fun j => Xp (f j), fun j hj => ?_⟩, h.rq, fun i j hi hj hne k h1 h2 => ?_, h.aq, fun x hx => ?_, h.bq, fun k hk => h.off k (hb k hk), h.offq, h.bel⟩
  · obtain ⟨hj', e'⟩ := hf j hj
    rw [e']
    exact hrp (f j) hj'
  · obtain ⟨hi', ei⟩ := hf i hi
    obtain ⟨hj', ej⟩ := hf j hj
    rw [ei] at h1
    rw [ej] at h2
    exact h.ap (f i) (f j) hi' hj' (inj i j hne) k h1 h2
  · obtain ⟨j, hj, e⟩ := List.mem_iff_getElem.1 hx
    obtain ⟨hj', e'⟩ := hf j hj
    rw [← e, e']
    exact h.bp _ (List.getElem_mem _)
theorem Wk.lessM {x : Rw} {P : List Rw} (h : Wk w wr xa xb g D lA lR wv fv bs cs (ps ++ [x] ++ P) qs) : Wk w wr xa xb g D lA lR wv fv bs cs (ps ++ P) qs := by
  refine h.pickW (fun j => if j < ps.length then j else j + 1) (fun j hj => ?_) (fun i j hne => ?_)
  · simp only [List.length_append] at hj
    by_cases hl : j < ps.length
    · refine ⟨by simp only [if_pos hl, List.length_append]; omega, ?_⟩
      simp only [if_pos hl]
      rw [List.getElem_append_left hl, List.getElem_append_left (by simp; omega), List.getElem_append_left hl]
    · refine ⟨by simp only [if_neg hl, List.length_append, List.length_singleton]; omega, ?_⟩
      simp only [if_neg hl]
      rw [List.getElem_append_right (by omega), List.getElem_append_right (by simp; omega)]
      congr 1
      all_goals (simp; try omega)
  · split <;> split <;> omega

theorem addF_wk {pa : Option Addr} {pn pc n : Nat} (h : Wk w wr xa xb g D lA lR wv fv bs (qs.map Rw.v) ps (qs ++ [⟨.slice pa pn pc, n⟩])) (hn : qs.length ≤ 600) :
    Calls Tryz.prog 11 #[.pointer (some ⟨g, 0, none⟩), .slice pa pn pc] wr fun e w' => e = .returned (.tuple #[]) ∧ ∃ fv' qs', Wk w w' xa xb g D lA lR wv fv' bs (qs'.map Rw.v) ps qs' ∧ qs'.length ≤ 600 ∧ (∀ (k : Nat) (c : Array Value), wr.heap[k]? = some (Obj.cells c 66 (0, 0)) → w'.heap[k]? = some (Obj.cells c 66 (0, 0))) := by
  by_cases hl : qs.length < 600
  · refine (addFired_any g wv fv bs (qs.map Rw.v) w.heap.size pa pn pc wr h.bag (by simpa using hl) h.bel.size).mono ?_
    rintro e w1 ⟨rfl, v', hb, hk, _⟩
    refine ⟨rfl, v', qs ++ [⟨.slice pa pn pc, n⟩], ?_, by simp; omega, fun k c e => hk.heap e ?_⟩
    · rw [List.map_append]
      exact h.bagIn hb (hk.mono (fun k _ hs => hs.elim .inl (fun e => .inr (.inr e))))
    · rintro (rfl | e')
      · have := h.bag.row; rw [e] at this; simp at this
      · exact row_not h.bag.fi e (by decide) e'
  · refine (addFired_full g wv fv bs (qs.map Rw.v) w.heap.size pa pn pc wr h.bag (by simp; omega)).mono ?_
    rintro e w1 ⟨rfl, e1⟩
    rw [e1]
    exact ⟨rfl, fv, qs, h.lessF, hn, fun k c e => e⟩

theorem addW_wk {P : List Rw} {pa : Option Addr} {pn pc n : Nat} (h : Wk w wr xa xb g D lA lR wv fv (ps.map Rw.v) cs (ps ++ [⟨.slice pa pn pc, n⟩] ++ P) qs) (hn : ps.length ≤ 600) :
    Calls Tryz.prog 12 #[.pointer (some ⟨g, 0, none⟩), .slice pa pn pc] wr fun e w' => e = .returned (.tuple #[]) ∧ ∃ wv' ps', Wk w w' xa xb g D lA lR wv' fv (ps'.map Rw.v) cs (ps' ++ P) qs ∧ ps'.length ≤ 600 := by
  by_cases hl : ps.length < 600
  · refine (addWatches_any g wv fv (ps.map Rw.v) cs w.heap.size pa pn pc wr h.bag (by simpa using hl) h.bel.size).mono ?_
    rintro e w1 ⟨rfl, v', hb, hk, _⟩
    refine ⟨rfl, v', ps ++ [⟨.slice pa pn pc, n⟩], ?_, by simp; omega⟩
    rw [List.map_append]
    exact h.bagIn hb (hk.mono (fun k _ hs => hs.elim .inl (fun e => .inr (.inl e))))
  · refine (addWatches_full g wv fv (ps.map Rw.v) cs w.heap.size pa pn pc wr h.bag (by simp; omega)).mono ?_
    rintro e w1 ⟨rfl, e1⟩
    rw [e1]
    exact ⟨rfl, wv, ps, h.lessM, hn⟩

theorem all_wk {p : Nat} (h : Wk w wr xa xb g D lA lR wv fv bs cs ps qs) (hp : p < 2) :
    Calls Tryz.prog 13 #[.pointer (some ⟨D.b p, 0, none⟩)] wr fun e w' => ∃ u, e = .returned u ∧ Wk w w' xa xb g D lA lR wv fv bs cs (ps ++ [⟨u, (lA p).length⟩]) qs ∧ w'.ownsRow wr.heap.size 57 3 u (lA p).length (waFlat (lA p)) ∧ Below wr.heap.size wr w' := by
  have hle := (h.wA p hp).le
  refine (all_any (h.a p hp) (by omega)).mono ?_
  rintro e w1 ⟨u, rfl, hu, hB⟩
  obtain ⟨Xp, hrp⟩ := h.rp
  refine ⟨u, rfl, (h.below hB).rowW hu h.bel.size (by omega) (fun k e => ?_), hu, hB⟩
  have hge := (hu.lt k e).1
  refine ⟨fun q hq => ⟨fun hf => ?_, fun hf => ?_⟩, fun hb => ?_⟩
  · have := (h.a q hq).lt hf; omega
  · have := (h.r q hq).lt hf; omega
  · have := rows_lt hrp hb; omega

theorem apart_wk (h : Wk w wr xa xb g D lA lR wv fv (ps.map Rw.v) (qs.map Rw.v) ps qs) (hp : ps.length ≤ 600) (hq : qs.length ≤ 600) :
    Calls Tryz.prog 16 #[.pointer (some ⟨g, 0, none⟩)] wr fun e w' => e = .returned (.bool true) ∧ Wz w w' xa xb D lA lR := by
  obtain ⟨Xp, hrp⟩ := h.rp
  obtain ⟨Xq, hrq⟩ := h.rq
  refine (bagApart_wf g w.heap.size wv fv ps qs Xp Xq wr h.bag hrp hrq h.ap h.aq hp hq (fun j hj => h.bp _ (List.getElem_mem _)) (fun j hj => h.bq _ (List.getElem_mem _))).mono ?_
  rintro e w1 ⟨rfl, hk⟩
  exact ⟨rfl, h.apart hk⟩

/-- A box of what a call told is written: all else stays. -/
theorem Wk.box {bx : Nat} {c : Array Value} (h : Wk w wr xa xb g D lA lR wv fv bs cs ps qs) (hb : wr.heap[bx]? = some (Obj.cells c 66 (0, 0))) (hlo : w.heap.size ≤ bx) (hk : Kept wr w' (fun k => k = bx)) : Wk w w' xa xb g D lA lR wv fv bs cs ps qs := by
  obtain ⟨Xp, hrp⟩ := h.rp
  have no : ∀ k cs T, wr.heap[k]? = some (Obj.cells cs T (0, 0)) → T ≠ 66 → ¬ k = bx := fun k cs T e ht e' => by
    subst e'; rw [hb] at e; simp at e; exact ht e.2.symm
  have no2 : ∀ T, (T = 80 ∨ T = 57 ∨ T = 82) → T ≠ 66 := by
    rintro T (rfl | rfl | rfl) <;> decide
  refine ⟨fun p hp => (h.a p hp).kept hk (fun k hf e => ?_), fun p hp => (h.r p hp).kept hk (fun k hf e => ?_), h.aa, h.rr, h.ar, h.lo, h.wA, h.wR, hk.heap h.ba (no _ _ _ h.ba (by decide)), hk.heap h.bb (no _ _ _ h.bb (by decide)), ⟨hk.heap h.bag.row (no _ _ _ h.bag.row (by decide)), rowK h.bag.wa hk (fun k e => ?_), rowK h.bag.fi hk (fun k e => ?_)⟩, h.glo, ?_, ?_, h.ap, h.aq, h.bp, h.bq, h.off, h.offq, bel_kept h.bel hk (fun k e => by omega)⟩
  · subst e; exact (h.a p hp).notBox hb (by decide) (by decide) hf
  · subst e; exact (h.r p hp).notBox hb (by decide) (by decide) hf
  · obtain ⟨c', e'⟩ := rowT h.bag.wa e
    exact no _ _ _ e' (by decide)
  · obtain ⟨c', e'⟩ := rowT h.bag.fi e
    exact no _ _ _ e' (by decide)
  · refine ⟨Xp, rows_kept hrp hk (fun k hbk => ?_)⟩
    obtain ⟨c', e'⟩ := blkR_type hrp hbk
    exact no _ _ _ e' (by decide)
  · obtain ⟨Xq, hrq⟩ := h.rq
    refine ⟨Xq, rows_kept hrq hk (fun k hbk => ?_)⟩
    obtain ⟨c', e'⟩ := blkR_type hrq hbk
    exact no _ _ _ e' (by decide)
/-- A row of another kind stays too. -/
theorem row_box {wr w' : World} {bx B z n : Nat} {c : Array Value} {T : TypeId} {u : Value} {xs : List Value} (hu : wr.ownsRow B T z u n xs) (hT : T ≠ 66) (hb : wr.heap[bx]? = some (Obj.cells c 66 (0, 0))) (hk : Kept wr w' (fun k => k = bx)) : w'.ownsRow B T z u n xs :=
  rowK hu hk (fun k e e2 => by
    obtain ⟨c', e'⟩ := rowT hu e
    subst e2; rw [hb] at e'; simp at e'; exact hT e'.2.symm)
theorem addW_wk0 {pa : Option Addr} {pn pc n : Nat} (h : Wk w wr xa xb g D lA lR wv fv (ps.map Rw.v) cs (ps ++ [⟨.slice pa pn pc, n⟩]) qs) (hn : ps.length ≤ 600) :
    Calls Tryz.prog 12 #[.pointer (some ⟨g, 0, none⟩), .slice pa pn pc] wr fun e w' => e = .returned (.tuple #[]) ∧ ∃ wv' ps', Wk w w' xa xb g D lA lR wv' fv (ps'.map Rw.v) cs ps' qs ∧ ps'.length ≤ 600 := by
  have h' : Wk w wr xa xb g D lA lR wv fv (ps.map Rw.v) cs (ps ++ [⟨.slice pa pn pc, n⟩] ++ []) qs := by rw [List.append_nil]; exact h
  refine (addW_wk h' hn).mono ?_
  rintro e w1 ⟨rfl, wv', ps', h1, h2⟩
  rw [List.append_nil] at h1
  exact ⟨rfl, wv', ps', h1, h2⟩

end Go.Proofs.YtkcapiblicfboaaGreatDoor
