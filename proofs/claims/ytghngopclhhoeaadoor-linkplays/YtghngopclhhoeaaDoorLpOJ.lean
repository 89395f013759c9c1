/- A World of LinkPlays: a message taken, a message kept, a message wanted; what a call leaves. -/
import Derived.Test.YtghngopclhhoeaaDoorLpNJ
namespace Go.Proofs.YtghngopclhhoeaaDoor
open Go.RowKit
set_option maxRecDepth 8000
set_option linter.unusedSimpArgs false
set_option linter.unusedVariables false

/-- One block is of the class c. -/
def oneQ (own : Nat → Nat) (g c k : Nat) : Nat := if k = g then c else own k
theorem oneQ_at (own : Nat → Nat) (g c : Nat) : oneQ own g c g = c := by unfold oneQ; rw [if_pos rfl]
theorem oneQ_ne {own : Nat → Nat} {g c k : Nat} (h : k ≠ g) : oneQ own g c k = own k := by unfold oneQ; rw [if_neg h]

section
variable {W W1 : World} {own : Nat → Nat} {p : Nat} {R : PlR}

/-- A block that nothing is in goes from hand to hand. -/
theorem Pq.turnQ {own1 : Nat → Nat} (h : Pq W own p R) (ha : ∀ k c, c < 7 → own k = 10 * p + c → (c = 1 → Fn R.N R.v R.l k) → own1 k = 10 * p + c) : Pq W own1 p R := by
  refine ⟨h.row, h.nt, h.dn, h.ko, h.wo, h.kd, h.kh, ha _ 0 (by omega) h.ox (by omega), fun k hf => ha k 1 (by omega) (h.on k hf) (fun _ => hf), fun k e => ha k 2 (by omega) (h.od k e) (by omega), fun m hm k e => ha k 6 (by omega) (h.om m hm k e) (by omega), fun k e => ha k 3 (by omega) (h.okr k e) (by omega), fun m hm k e => ha k 4 (by omega) (h.okb m hm k e) (by omega), fun k e => ha k 5 (by omega) (h.owr k e) (by omega), fun m hm k e => ha k 6 (by omega) (h.owb m hm k e) (by omega)⟩

/-- A message is taken out of the program's net. -/
theorem Pq.take {v' : Value} {A B : List MsD} {x : MsD} (h : Pq W own p R) (hl : R.l = A ++ x :: B) (hn : Nt W1 R.N R.n v' (A ++ B)) (hk : Kept W W1 (fun k => k = R.N ∨ R.v.ownBlock = some k)) (hv : v'.ownBlock = R.v.ownBlock) :
    Pq W1 (oneQ (upQ own W.heap.size (10 * p + 1)) x.g (10 * p + 7)) p { R with v := v', l := A ++ B } ∧ Stp W W1 own (oneQ (upQ own W.heap.size (10 * p + 1)) x.g (10 * p + 7)) p := by
  have hx : x ∈ R.l := by rw [hl]; simp
  have hsub : ∀ m, m ∈ A ++ B → m ∈ R.l := fun m hm => by
    rw [hl]
    rcases List.mem_append.1 hm with e | e
    · exact List.mem_append_left _ e
    · exact List.mem_append_right _ (List.mem_cons_of_mem _ e)
  have hx1 : own x.g = 10 * p + 1 := h.on _ (.inr (.inr ⟨x, hx, rfl⟩))
  have hxl : x.g < W.heap.size := (h.nt.hm x hx).lt
  have hkF : Kept W W1 (fun k => Fn R.N R.v R.l k) := hk.mono (fun k _ e => e.elim .inl (fun e => .inr (.inl e)))
  have g1 := h.net hn hkF (fun k hf => by
    rcases hf with e | e | ⟨m, hm, e⟩
    · exact .inl (.inl e)
    · exact .inl (.inr (.inl (by rw [← hv]; exact e)))
    · exact .inl (.inr (.inr ⟨m, hsub m hm, e⟩)))
  have hnx : ¬ Fn R.N v' (A ++ B) x.g := by
    rintro (e | e | ⟨m, hm, e⟩)
    · exact h.nt.ne.2.1 x hx e
    · rw [hv] at e; exact h.nt.ne.2.2 x hx e
    · have hnd := h.nt.nd
      rw [hl, List.map_append, List.map_cons] at hnd
      rw [List.nodup_append, List.nodup_cons] at hnd
      obtain ⟨_, ⟨h2, _⟩, h3⟩ := hnd
      rcases List.mem_append.1 hm with hm | hm
      · exact h3 _ (List.mem_map_of_mem hm) _ (List.mem_cons_self ..) e
      · exact h2 (by rw [← e]; exact List.mem_map_of_mem hm)
  refine ⟨g1.turnQ (fun k c hc e hf => ?_), ⟨hk.mono (fun k hkl e => ?_), fun k hkl hp => ?_⟩⟩
  · rw [oneQ_ne (fun e2 => ?_)]
    · exact e
    · subst e2
      rw [upQ_old hxl, hx1] at e
      exact hnx (hf (by omega))
  · rcases e with rfl | e
    · exact h.on10 (.inl rfl)
    · exact h.on10 (.inr (.inl e))
  · rw [oneQ_ne (fun e2 => by subst e2; omega), upQ_old hkl]

/-- One message more is kept. -/
theorem Pq.more {kv' : Value} {y : MsG} (h : Pq W own p R) (ho : W1.ownsRow 0 72 4 kv' (R.K ++ [y]).length (gFlat (R.K ++ [y]))) (hk : Kept W W1 (fun k => R.kv.ownBlock = some k)) (hnr : NewRow W R.kv kv') (hy : Owns W 0 y.v y.bs) (hyo : ∀ g, y.v.ownBlock = some g → own g = 10 * p + 7) (hyl : y.bs.length ≤ 8192) :
    ∃ own', Pq (W1.setCell ⟨R.x, 2, none⟩ kv') own' p { R with kv := kv', K := R.K ++ [y] } ∧ Stp W (W1.setCell ⟨R.x, 2, none⟩ kv') own own' p ∧ Kept W (W1.setCell ⟨R.x, 2, none⟩ kv') (fun k => R.kv.ownBlock = some k ∨ k = R.x) ∧ ∀ k, k < W.heap.size → own k ≠ 10 * p + 7 → own' k = own k := by
  obtain ⟨W2, hW2⟩ : ∃ W2, W2 = W1.setCell ⟨R.x, 2, none⟩ kv' := ⟨_, rfl⟩
  have k2 : Kept W1 W2 (fun k => k = R.x) := by rw [hW2]; exact (Kept.refl W1 _).setCell _ _ (fun _ => rfl)
  have nx : ∀ k c, own k = 10 * p + c → c ≠ 0 → c < 9 → k ≠ R.x := fun k c e hc _ e2 => by subst e2; have := h.ox; omega
  have n3 : ∀ k c, own k = 10 * p + c → c ≠ 3 → c < 9 → ¬ (R.kv.ownBlock = some k) := fun k c e hc _ e2 => by have := h.okr k e2; omega
  have hK : Kept W W2 (fun k => R.kv.ownBlock = some k ∨ k = R.x) := (hk.mono (fun _ _ e => .inl e)).trans k2 (fun _ _ e => .inr e)
  have n : ∀ k c, own k = 10 * p + c → c ≠ 3 → c ≠ 0 → c < 9 → ¬ (R.kv.ownBlock = some k ∨ k = R.x) := fun k c e h3 h0 h9 e2 => e2.elim (n3 k c e h3 h9) (nx k c e h0 h9)
  have lx := lt_of_block h.row
  have row1 := hk.heap h.row (n3 _ 0 h.ox (by omega) (by omega))
  have hkx : ∀ k, kv'.ownBlock = some k → k ≠ R.x := fun k e e2 => by
    subst e2
    obtain ⟨cs, e3⟩ := rowTl ho e
    rw [row1] at e3
    simp at e3
  rw [← hW2]
  refine ⟨fun k => if y.v.ownBlock = some k then 10 * p + 4 else upQ own W.heap.size (10 * p + 3) k, ?_, ⟨hK.mono (fun k hkl e => ?_), fun k hkl hp => ?_⟩, hK, fun k hkl h7 => by show (if _ then _ else _) = _; rw [if_neg (fun e2 => h7 (hyo k e2)), upQ_old hkl]⟩
  · have a0 : ∀ k c, k < W.heap.size → own k = 10 * p + c → c < 7 → (if y.v.ownBlock = some k then 10 * p + 4 else upQ own W.heap.size (10 * p + 3) k) = 10 * p + c := fun k c hl e hc => by
      rw [if_neg (fun e2 => by have := hyo k e2; omega), upQ_old hl]
      exact e
    refine ⟨?_, h.nt.kept hK (fun k hf => n k 1 (h.on k hf) (by omega) (by omega) (by omega)), h.dn.kept hK (fun k hf => ?_), ⟨rowKl ho k2 (fun g hg e => hkx g hg e), fun m hm => ?_⟩, h.wo.kept hK (fun k e => n k 5 (h.owr k e) (by omega) (by omega) (by omega)) (fun m hm k e => n k 6 (h.owb m hm k e) (by omega) (by omega) (by omega)), fun i j a b hi hj hij g ha hb => ?_, fun m hm => ?_, a0 _ 0 lx h.ox (by omega), fun k hf => a0 k 1 (h.nt.lt hf) (h.on k hf) (by omega), fun k e => ?_, fun m hm k e => a0 k 6 (h.dn.ow.lt.2 m hm k e) (h.om m hm k e) (by omega), fun k e => ?_, fun m hm k e => ?_, fun k e => a0 k 5 (h.wo.lt.1 k e) (h.owr k e) (by omega), fun m hm k e => a0 k 6 (h.wo.lt.2 m hm k e) (h.owb m hm k e) (by omega)⟩
    · rw [hW2, setCell_eq_setRow W1 R.x 2 _ _ _ _ row1, setRow_heap W1 R.x _ _ _ _ row1]; rfl
    · rcases hf with rfl | e | ⟨m, hm, e⟩
      · exact n _ 2 (h.od _ (.inl rfl)) (by omega) (by omega) (by omega)
      · exact n k 2 (h.od k (.inr e)) (by omega) (by omega) (by omega)
      · exact n k 6 (h.om m hm k e) (by omega) (by omega) (by omega)
    · rcases List.mem_append.1 hm with hm | hm
      · exact Owns.kept (h.ko.own m hm) hK (fun k e => n k 4 (h.okb m hm k e) (by omega) (by omega) (by omega))
      · simp at hm
        subst hm
        exact Owns.kept hy hK (fun k e => n k 7 (hyo k e) (by omega) (by omega) (by omega))
    · have hlen : ∀ (i : Nat) (a : MsG), (R.K ++ [y])[i]? = some a → (i < R.K.length ∧ R.K[i]? = some a) ∨ (i = R.K.length ∧ a = y) := fun i a hi => by
        rcases Nat.lt_or_ge i R.K.length with hlt | hge
        · rw [List.getElem?_append_left hlt] at hi; exact .inl ⟨hlt, hi⟩
        · rw [List.getElem?_append_right hge] at hi
          cases hz : i - R.K.length with
          | zero => rw [hz] at hi; simp at hi; exact .inr ⟨by omega, hi.symm⟩
          | succ z => rw [hz] at hi; simp at hi
      rcases hlen i a hi with ⟨_, h1⟩ | ⟨h1, h1'⟩ <;> rcases hlen j b hj with ⟨_, h2⟩ | ⟨h2, h2'⟩
      · exact h.kd i j a b h1 h2 hij g ha hb
      · subst h2'
        have := h.okb a (List.mem_of_getElem? h1) g ha
        have := hyo g hb
        omega
      · subst h1'
        have := h.okb b (List.mem_of_getElem? h2) g hb
        have := hyo g ha
        omega
      · omega
    · rcases List.mem_append.1 hm with hm | hm
      · exact h.kh m hm
      · simp at hm
        subst hm
        exact hyl
    · refine a0 k 2 ?_ (h.od k e) (by omega)
      rcases e with rfl | e
      · exact lt_of_block h.dn.hb
      · exact h.dn.ow.lt.1 k e
    · have hne : y.v.ownBlock ≠ some k := fun e2 => by
        obtain ⟨cs, e3⟩ := rowTl ho e
        obtain ⟨cs', e4⟩ := rowTl (Owns.kept hy hk (fun k e => n3 k 7 (hyo k e) (by omega) (by omega))) e2
        rw [e3] at e4
        simp at e4
      show (if _ then _ else _) = _
      rw [if_neg hne]
      rcases hnr with e2 | ⟨k', e2, hk'⟩
      · have e3 : R.kv.ownBlock = some k := by rw [← e2]; exact e
        rw [upQ_old (h.ko.lt.1 k e3)]
        exact h.okr k e3
      · have e3 : k' = k := by
          have e4 : kv'.ownBlock = some k := e
          rw [e2] at e4
          simpa using e4
        subst e3
        exact upQ_new hk'
    · rcases List.mem_append.1 hm with hm | hm
      · exact a0 k 4 (h.ko.lt.2 m hm k e) (h.okb m hm k e) (by omega)
      · simp at hm
        subst hm
        show (if _ then _ else _) = _
        rw [if_pos e]
  · rcases e with e | e
    · have := h.okr k e; omega
    · have e' : k = R.x := e
      subst e'
      have := h.ox; omega
  · show (if _ then _ else _) = _
    rw [if_neg (fun e2 => by have := hyo k e2; omega), upQ_old hkl]

/-- One message more is wanted. -/
theorem Pq.want {wv' : Value} {y : MsG} (h : Pq W own p R) (ho : W1.ownsRow 0 72 4 wv' (R.T ++ [y]).length (gFlat (R.T ++ [y]))) (hk : Kept W W1 (fun k => R.wv.ownBlock = some k)) (hnr : NewRow W R.wv wv') (hy : Owns W 0 y.v y.bs) (hyo : ∀ g, y.v.ownBlock = some g → own g = 10 * p + 6) :
    ∃ own', Pq (W1.setCell ⟨R.x, 3, none⟩ wv') own' p { R with wv := wv', T := R.T ++ [y] } ∧ Stp W (W1.setCell ⟨R.x, 3, none⟩ wv') own own' p := by
  obtain ⟨W2, hW2⟩ : ∃ W2, W2 = W1.setCell ⟨R.x, 3, none⟩ wv' := ⟨_, rfl⟩
  have k2 : Kept W1 W2 (fun k => k = R.x) := by rw [hW2]; exact (Kept.refl W1 _).setCell _ _ (fun _ => rfl)
  have hK : Kept W W2 (fun k => R.wv.ownBlock = some k ∨ k = R.x) := (hk.mono (fun _ _ e => .inl e)).trans k2 (fun _ _ e => .inr e)
  have n5 : ∀ k c, own k = 10 * p + c → c ≠ 5 → c < 9 → ¬ (R.wv.ownBlock = some k) := fun k c e hc _ e2 => by have := h.owr k e2; omega
  have n : ∀ k c, own k = 10 * p + c → c ≠ 5 → c ≠ 0 → c < 9 → ¬ (R.wv.ownBlock = some k ∨ k = R.x) := fun k c e h3 h0 h9 e2 => e2.elim (n5 k c e h3 h9) (fun e3 => by subst e3; have := h.ox; omega)
  have lx := lt_of_block h.row
  have row1 := hk.heap h.row (n5 _ 0 h.ox (by omega) (by omega))
  have hkx : ∀ k, wv'.ownBlock = some k → k ≠ R.x := fun k e e2 => by
    subst e2
    obtain ⟨cs, e3⟩ := rowTl ho e
    rw [row1] at e3
    simp at e3
  rw [← hW2]
  refine ⟨upQ own W.heap.size (10 * p + 5), ?_, ⟨hK.mono (fun k hkl e => ?_), fun k hkl hp => upQ_old hkl⟩⟩
  · have a0 : ∀ k c, k < W.heap.size → own k = 10 * p + c → upQ own W.heap.size (10 * p + 5) k = 10 * p + c := fun k c hl e => by rw [upQ_old hl]; exact e
    refine ⟨?_, h.nt.kept hK (fun k hf => n k 1 (h.on k hf) (by omega) (by omega) (by omega)), h.dn.kept hK (fun k hf => ?_), h.ko.kept hK (fun k e => n k 3 (h.okr k e) (by omega) (by omega) (by omega)) (fun m hm k e => n k 4 (h.okb m hm k e) (by omega) (by omega) (by omega)), ⟨rowKl ho k2 (fun g hg e => hkx g hg e), fun m hm => ?_⟩, h.kd, h.kh, a0 _ 0 lx h.ox, fun k hf => a0 k 1 (h.nt.lt hf) (h.on k hf), fun k e => ?_, fun m hm k e => a0 k 6 (h.dn.ow.lt.2 m hm k e) (h.om m hm k e), fun k e => a0 k 3 (h.ko.lt.1 k e) (h.okr k e), fun m hm k e => a0 k 4 (h.ko.lt.2 m hm k e) (h.okb m hm k e), fun k e => ?_, fun m hm k e => ?_⟩
    · rw [hW2, setCell_eq_setRow W1 R.x 3 _ _ _ _ row1, setRow_heap W1 R.x _ _ _ _ row1]; rfl
    · rcases hf with rfl | e | ⟨m, hm, e⟩
      · exact n _ 2 (h.od _ (.inl rfl)) (by omega) (by omega) (by omega)
      · exact n k 2 (h.od k (.inr e)) (by omega) (by omega) (by omega)
      · exact n k 6 (h.om m hm k e) (by omega) (by omega) (by omega)
    · rcases List.mem_append.1 hm with hm | hm
      · exact Owns.kept (h.wo.own m hm) hK (fun k e => n k 6 (h.owb m hm k e) (by omega) (by omega) (by omega))
      · simp at hm
        subst hm
        exact Owns.kept hy hK (fun k e => n k 6 (hyo k e) (by omega) (by omega) (by omega))
    · refine a0 k 2 ?_ (h.od k e)
      rcases e with rfl | e
      · exact lt_of_block h.dn.hb
      · exact h.dn.ow.lt.1 k e
    · rcases hnr with e2 | ⟨k', e2, hk'⟩
      · have e3 : R.wv.ownBlock = some k := by rw [← e2]; exact e
        rw [upQ_old (h.wo.lt.1 k e3)]
        exact h.owr k e3
      · have e3 : k' = k := by
          have e4 : wv'.ownBlock = some k := e
          rw [e2] at e4
          simpa using e4
        subst e3
        exact upQ_new hk'
    · rcases List.mem_append.1 hm with hm | hm
      · exact a0 k 6 (h.wo.lt.2 m hm k e) (h.owb m hm k e)
      · simp at hm
        subst hm
        exact a0 k 6 ((hy.lt k e).2) (hyo k e)
  · rcases e with e | e
    · have := h.owr k e; omega
    · have e' : k = R.x := e
      subst e'
      have := h.ox; omega

/-- What a call leaves. -/
def DoQ (W W' : World) (own : Nat → Nat) (p : Nat) (R : PlR) : Prop := ∃ own' R', Pq W' own' p R' ∧ AlikeG (R'.l.map MsD.gd) R'.L ∧ AlikeG R'.K R'.T ∧ R'.x = R.x ∧ R'.l.length ≤ R.l.length + 1 ∧ R'.K.length ≤ R.K.length + 1 ∧ Stp W W' own own' p
end
end Go.Proofs.YtghngopclhhoeaaDoor
