/- Two Worlds of the law side by side, and each call at one of them. -/
import Derived.Test.YtmniefmjdfdedaaGreatDoorSgN
import Derived.Test.YtmniefmjdfdedaaGreatDoorSgM
import Derived.Test.YtmniefmjdfdedaaGreatDoorSgK
import Derived.Test.YtmniefmjdfdedaaGreatDoorSeG
import Derived.Test.YtmniefmjdfdedaaGreatDoorSeQ
namespace Go.Proofs.YtmniefmjdfdedaaGreatDoor
open Go.RowKit Go.Shelf
set_option maxRecDepth 8000
set_option linter.unusedSimpArgs false
set_option linter.unusedVariables false

section
variable {w W W' : World} {own own' : Nat → Nat} {p q : Nat} {R : WoR} {T T' : Int}
/-- Every call. -/
theorem does_any (hp : p ≠ 7) (h : Wo w W own p R) (f : Fit R T) (hT : T ≤ 2000000000000000000) (s : OpS) :
    Calls Tryz.prog 7 #[.pointer (some ⟨R.x, 0, none⟩), .agg #[.int .i64 s.kind, .int .i64 s.on, .int .i64 s.id, .int .i32 s.tm, .int .i64 s.n]] W fun e w' => e = .returned (.bool true) ∧ Hid (DoTo w W w' own p R (T + 40)) := by
  have hT3 : T ≤ 3000000000000000000 := by omega
  have more : ∀ w', DoTo w W w' own p R T → DoTo w W w' own p R (T + 40) := fun w' ⟨o, R', h1, h2, h3⟩ => ⟨o, R', h1, h2.more (by omega), h3⟩
  obtain ⟨k, on, id, tm, n⟩ := s
  show Calls _ _ #[_, .agg #[.int .i64 k, .int .i64 on, .int .i64 id, .int .i32 tm, .int .i64 n]] _ _
  by_cases h1 : k = 1
  · subst h1; exact (does_add hp h f hT3 on id tm n).mono (fun e w' r => ⟨r.1, more w' r.2.out⟩)
  by_cases h2 : k = 2
  · subst h2; exact (does_touch hp h f hT3 on id tm n).mono (fun e w' r => ⟨r.1, more w' r.2.out⟩)
  by_cases h3 : k = 3
  · subst h3; exact (does_remove hp h f hT3 on id tm n).mono (fun e w' r => ⟨r.1, more w' r.2.out⟩)
  by_cases h4 : k = 4
  · subst h4; exact does_tick hp h f hT on id tm n
  by_cases h5 : k = 5
  · subst h5; exact (does_due hp h f hT3 on id tm n).mono (fun e w' r => ⟨r.1, more w' r.2.out⟩)
  by_cases h6 : k = 6
  · subst h6; exact (does_tell hp h f on id tm n).mono (fun e w' r => ⟨r.1, more w' r.2.out⟩)
  exact (does_else hp h f hT3 k on id tm n h1 h2 h3 h4 h5 h6).mono (fun e w' r => ⟨r.1, more w' r.2.out⟩)

/-- What is not p's may turn; the owners of new blocks may be any. -/
theorem Wo.other' (h : Wo w W own q R) (hpq : q ≠ p) (hk : Kept W W' (fun k => own k = p)) (hlo : ∀ k, own k = p → w.heap.size ≤ k) (ha : ∀ k, k < W.heap.size → own' k = own k) : Wo w W' own' q R := by
  have h' := h.other hpq hk hlo h.be.size
  refine ⟨h'.row, h'.ck, h'.dc, h'.kr, h'.wr, h'.ko, h'.wo, h'.kn, h'.lk, h'.lw, h'.nn, h'.ap, h'.kw, h'.sb, fun k hf => ?_, fun k e => ?_, h'.be⟩
  · rw [ha k (h.lt hf)]; exact h.o k hf
  · by_cases hlt : k < W.heap.size
    · rw [ha k hlt] at e; exact h.lo k e
    · have := h.be.size; omega

/-- One of two places: empty, or a World. -/
def Sl (w W : World) (own : Nat → Nat) (p : Nat) (c : Value) (T : Int) : Prop := c = .pointer none ∨ ∃ R, c = .pointer (some ⟨R.x, 0, none⟩) ∧ Wo w W own p R ∧ Fit R T

/-- Both places. -/
structure Pr (w W : World) (own : Nat → Nat) (xw xs : Nat) (c : Nat → Value) (one two : Int) (k0 : Nat) (T : Int) : Prop where
  bw : W.heap[xw]? = some (.cells #[c 0, c 1] 25 (0, 0))
  bs : W.heap[xs]? = some (.cells #[.int .i64 one, .int .i64 two] 26 (0, 0))
  ow : own xw = 7
  os : own xs = 7
  s : ∀ q, k0 ≤ q → q < 2 → Sl w W own q (c q) T
  lo : ∀ k, own k ≤ 7 → w.heap.size ≤ k
  be : Below w.heap.size w W
variable {xw xs : Nat} {c : Nat → Value} {one two : Int} {k0 k1 : Nat}
theorem Pr.below (h : Pr w W own xw xs c one two k0 T) (hb : Below W.heap.size W W') : Pr w W' own xw xs c one two k0 T := by
  have hk : Kept W W' (fun _ => False) := kept_of_belowS hb
  refine ⟨hk.heap h.bw id, hk.heap h.bs id, h.ow, h.os, fun q h0 h1 => ?_, h.lo, h.be.trans (hb.mono h.be.size)⟩
  rcases h.s q h0 h1 with e | ⟨R, e, ho, f⟩
  · exact .inl e
  · exact .inr ⟨R, e, ho.belowO hb, f⟩
theorem Pr.cw (h : Pr w W own xw xs c one two k0 T) {p : Nat} (hp : p < 2) : W.cell? ⟨xw, p, none⟩ = some (c p) := by
  rw [cell_of_row W xw p _ _ _ h.bw]
  rcases (show p = 0 ∨ p = 1 by omega) with rfl | rfl <;> rfl
theorem Pr.cs (h : Pr w W own xw xs c one two k0 T) {p : Nat} (hp : p < 2) : W.cell? ⟨xs, p, none⟩ = some (.int .i64 (if p = 0 then one else two)) := by
  rw [cell_of_row W xs p _ _ _ h.bs]
  rcases (show p = 0 ∨ p = 1 by omega) with rfl | rfl <;> rfl
/-- A call at p's World. -/
theorem Pr.step (h : Pr w W own xw xs c one two k0 T) (hp : p ≠ 7) (hk : Kept W W' (fun k => own k = p)) (hlo : ∀ k, own k = p → w.heap.size ≤ k) (ha : ∀ k, k < W.heap.size → own' k = own k) (hT : T ≤ T') (h01 : k0 ≤ k1) (hs : k1 ≤ p → p < 2 → Sl w W' own' p (c p) T') : Pr w W' own' xw xs c one two k1 T' := by
  have hx : ∀ k, own k = 7 → ¬ (own k = p) := fun k e e2 => hp (e2.symm.trans e)
  refine ⟨hk.heap h.bw (hx _ h.ow), hk.heap h.bs (hx _ h.os), by rw [ha _ (lt_of_block h.bw)]; exact h.ow, by rw [ha _ (lt_of_block h.bs)]; exact h.os, fun q h0 h1 => ?_, fun k e => ?_, bel_keptS h.be hk hlo⟩
  · by_cases hq : q = p
    · subst hq; exact hs h0 h1
    · rcases h.s q (by omega) h1 with e | ⟨R, e, ho, f⟩
      · exact .inl e
      · exact .inr ⟨R, e, ho.other' hq hk hlo ha, f.more hT⟩
  · by_cases hlt : k < W.heap.size
    · rw [ha k hlt] at e; exact h.lo k e
    · have := h.be.size; omega
/-- A World is laid. -/
theorem Pr.put (h : Pr w W own xw xs c one two 0 0) {p cc m s d : Nat} {span : Int} (hp : p < 2) (hb : Below W.heap.size W W') (hc : Ck W' cc m s 0 span []) (hd : Dc W' d (.slice none 0 0) (.slice none 0 0) 0 span []) (hlo : W.heap.size ≤ cc ∧ W.heap.size ≤ m ∧ W.heap.size ≤ s ∧ W.heap.size ≤ d) (s1 : 1 ≤ span) (s2 : span ≤ 1000) :
    ∃ own' c', Pr w ((W'.alloc (.cells #[.pointer (some ⟨cc, 0, none⟩), .pointer (some ⟨d, 0, none⟩), .slice none 0 0, .slice none 0 0] 36)).setCell ⟨xw, p, none⟩ (.pointer (some ⟨W'.heap.size, 0, none⟩))) own' xw xs c' one two 0 0 := by
  obtain ⟨W1, hW1⟩ : ∃ W1, W1 = W'.alloc (.cells #[.pointer (some ⟨cc, 0, none⟩), .pointer (some ⟨d, 0, none⟩), .slice none 0 0, .slice none 0 0] 36) := ⟨_, rfl⟩
  have hsz := hb.size
  have hB1 : Below W.heap.size W W1 := by rw [hW1]; exact hb.alloc hsz _
  have B1 : Below W'.heap.size W' W1 := by rw [hW1]; exact (Below.refl _ _).alloc (Nat.le_refl _) _
  have hnew : W1.heap[W'.heap.size]? = some (.cells #[.pointer (some ⟨cc, 0, none⟩), .pointer (some ⟨d, 0, none⟩), .slice none 0 0, .slice none 0 0] 36 (0, 0)) := by rw [hW1]; exact heap_alloc_new _ _
  rw [← hW1]
  have k1 : Kept W' W1 (fun _ => False) := kept_of_belowS B1
  have hrow : W1.heap[xw]? = some (.cells #[c 0, c 1] 25 (0, 0)) := (kept_of_belowS hB1 : Kept W W1 (fun _ => False)).heap h.bw id
  have hxl := lt_of_block h.bw
  obtain ⟨W2, hW2⟩ : ∃ W2, W2 = W1.setCell ⟨xw, p, none⟩ (.pointer (some ⟨W'.heap.size, 0, none⟩)) := ⟨_, rfl⟩
  have k2 : Kept W1 W2 (fun k => k = xw) := by rw [hW2]; exact (Kept.refl W1 _).setCell _ _ (fun _ => rfl)
  have hl7 : ∀ k, own k = 7 → w.heap.size ≤ k := fun k e => h.lo k (by omega)
  have hne : xs ≠ xw := fun e => by have := h.bs; rw [e, h.bw] at this; simp at this
  have hk7 : Kept W W2 (fun k => own k = 7) := (kept_of_belowS hB1 : Kept W W1 (fun k => own k = 7)).trans k2 (fun k _ e => by have e2 : k = xw := e; rw [e2]; exact h.ow)
  rw [← hW2]
  have ha : ∀ k, k < W.heap.size → upO own W.heap.size p k = own k := fun k hk => upO_old hk
  refine ⟨upO own W.heap.size p, fun q => if q = p then .pointer (some ⟨W'.heap.size, 0, none⟩) else c q, ?_, k2.heap ((kept_of_belowS hB1 : Kept W W1 (fun _ => False)).heap h.bs id) (fun e => hne e), by rw [ha _ hxl]; exact h.ow, by rw [ha _ (lt_of_block h.bs)]; exact h.os, fun q h0 h1 => ?_, fun k e => ?_, bel_keptS h.be hk7 hl7⟩
  · rw [hW2, setCell_eq_setRow W1 xw p _ _ _ _ hrow, setRow_heap W1 xw _ _ _ _ hrow]
    rcases (show p = 0 ∨ p = 1 by omega) with rfl | rfl <;> rfl
  · by_cases hq : q = p
    · subst hq
      simp only [if_pos]
      have ck1 : Ck W2 cc m s 0 span [] := (hc.kept k1 (fun _ _ e => e)).kept k2 (fun k hf e => by have e2 : k = xw := e; rcases hf with e3 | e3 | e3 <;> omega)
      have dc1 : Dc W2 d (.slice none 0 0) (.slice none 0 0) 0 span [] := (hd.kept k1 (fun _ _ e => e)).kept k2 (fun k hf e => by
        have e2 : k = xw := e
        rcases hf with e3 | e3 | e3
        · omega
        · cases e3
        · cases e3)
      refine .inr ⟨⟨W'.heap.size, cc, m, s, d, .slice none 0 0, .slice none 0 0, .slice none 0 0, .slice none 0 0, 0, 0, span, [], [], [], [], []⟩, rfl, ⟨k2.heap hnew (fun e => by have e2 : W'.heap.size = xw := e; omega), ck1, dc1, World.ownsRow_nil _ _ _ _, World.ownsRow_nil _ _ _ _, fun j hj => (by simp at hj), fun j v hv => (by simp at hv), by simp, rfl, by simp, fun j hj => (by simp at hj), fun i j hi => (by simp at hi), fun g e => (by cases e), fun e => (by cases e), fun k hf => ?_, fun k e => ?_, bel_keptS h.be hk7 hl7⟩, ⟨rfl, ⟨by simp, by simp⟩, fun y hy => by simp at hy, by simp, s1, s2, by simp, by simp, rfl⟩⟩
      · have hge : W.heap.size ≤ k := by
          rcases hf with e | e | e | e | e | ⟨j, hj, e⟩ | ⟨v, hv, e⟩
          · have e2 : k = W'.heap.size := e; omega
          · rcases e with e | e | e
            · have e2 : k = cc := e; omega
            · have e2 : k = m := e; omega
            · have e2 : k = s := e; omega
          · rcases e with e | e | e
            · have e2 : k = d := e; omega
            · cases e
            · cases e
          · cases e
          · cases e
          · simp at hj
          · simp at hv
        unfold upO
        rw [if_neg (by omega)]
      · unfold upO at e
        have := h.be.size
        split at e
        · exact h.lo k (by omega)
        · omega
    · simp only [if_neg hq]
      rcases h.s q h0 h1 with e | ⟨R, e, ho, f⟩
      · exact .inl e
      · exact .inr ⟨R, e, ho.other' (by omega) hk7 hl7 ha, f⟩
  · by_cases hlt : k < W.heap.size
    · rw [ha k hlt] at e; exact h.lo k e
    · have := h.be.size; omega
end
end Go.Proofs.YtmniefmjdfdedaaGreatDoor
